/-
  Law 1: is a text well formed; the value of a part of it.
-/
import Derived.Test.YtllmacokhjmdgaaGreatDoorNScale
namespace Go.Proofs.YtllmacokhjmdgaaGreatDoor
open Go.RowKit
set_option linter.unusedVariables false
def isDig (b : UInt8) : Prop := 48 ≤ b.toNat ∧ b.toNat ≤ 57
/-- A text of digits, no nought ahead of others. -/
structure WF (s : ByteArray) : Prop where
  ne : 0 < s.size
  lead : ¬ (s.data.toList.head? = some 48 ∧ 1 < s.size)
  dig : ∀ b ∈ s.data.toList, isDig b
def FormIs (s : ByteArray) (w : World) (e : Ending) (w' : World) : Prop :=
  (WF s ∧ e = .returned (.bool true) ∨ ¬ WF s ∧ e = .returned (.bool false)) ∧ w = w'
theorem toList_at (s : ByteArray) (i : Nat) (h : i < s.size) : s.data.toList[i]? = some s[i] := by
  rw [List.getElem?_eq_getElem (by simpa using h)]
  rfl
set_option maxRecDepth 100000 in
set_option maxHeartbeats 1000000 in
theorem form_any (s : ByteArray) (w : World) (hs : s.size ≤ maxLen) :
    Calls Tryz.prog 114 #[.string s] w (FormIs s w) := by
  unfold maxLen at hs
  by_cases h0 : s.size = 0
  · have hs0 : s = ⟨#[]⟩ := ByteArray.size_eq_zero_iff.1 h0
    subst hs0
    have HF : Hid (FormIs ⟨#[]⟩ w (.returned (.bool false)) w) := Lib.hid ⟨.inr ⟨fun h => absurd h.ne (by decide), rfl⟩, rfl⟩
    go_enter Tryz.func114, Tryz.ntmps114
    go_wp2
    go_ret
    exact HF.out
  · have hp : 0 < s.size := by omega
    have hpi : (0 : Int) < (s.size : Int) := by omega
    have hE : s.toList.isEmpty = false := by
      rw [List.isEmpty_eq_false_iff]
      intro h; exact h0 (by rw [ByteArray.toList_eq] at h; exact List.length_eq_zero_iff.2 h)
    have hat := toList_at s 0 hp
    obtain ⟨b0, hb0⟩ : ∃ b0, s[0] = b0 := ⟨_, rfl⟩
    rw [hb0] at hat
    have hhead : s.data.toList.head? = some b0 := by rw [List.head?_eq_getElem?]; exact hat
    obtain ⟨Z, hZ⟩ : ∃ Z : Int, (b0.toNat : Int) = Z := ⟨_, rfl⟩
    obtain ⟨n, hn⟩ : ∃ n, s.size = n := ⟨_, rfl⟩
    have Hn := Lib.hid hn
    by_cases hl : Z = 48 ∧ 1 < n
    · have HF : Hid (FormIs s w (.returned (.bool false)) w) := Lib.hid ⟨.inr ⟨fun h => h.lead ⟨by rw [hhead]; congr 1; exact UInt8.toNat_inj.1 (by have := hl.1; show b0.toNat = 48; omega), by omega⟩, rfl⟩, rfl⟩
      obtain ⟨rfl, hl1⟩ := hl
      have hl2 : (1 : Int) < (n : Int) := by omega
      clear hhead hat
      go_enter Tryz.func114, Tryz.ntmps114
      go_wp2_with fail
      go_ret
      exact HF.out
    · have HNo : Hid (¬ (∀ b ∈ s.data.toList, isDig b) → FormIs s w (.returned (.bool false)) w) := Lib.hid (fun h => ⟨.inr ⟨fun hw => h hw.dig, rfl⟩, rfl⟩)
      have HYes : Hid ((∀ b ∈ s.data.toList, isDig b) → FormIs s w (.returned (.bool true)) w) := Lib.hid (fun h => ⟨.inl ⟨⟨hp, fun hh => hl ⟨by
        have h1 := hh.1
        rw [hhead] at h1
        have h2 : b0 = 48 := Option.some.inj h1
        rw [← hZ, h2]; rfl, by have := hh.2; omega⟩, h⟩, rfl⟩, rfl⟩)
      rw [hn] at hs hp hpi
      by_cases hz : Z = 48
      · have hn1 : ¬ (1 : Int) < (n : Int) := by omega
        subst hz
        clear hhead hat hl
        go_enter Tryz.func114, Tryz.ntmps114
        go_wp2_with fail
        go_loopw [18] (fun i wr => ∃ k : Nat, k ≤ n ∧ i = .int .i64 (k : Int) ∧ Hid (∀ j b, j < k → s.data.toList[j]? = some b → isDig b) ∧ w = wr) (fun i _ => n - (intOf i).toNat)
        case atStart => exact ⟨0, by omega, rfl, Lib.hid (fun j b hj => by omega), rfl⟩
        case round =>
          obtain ⟨k, hk, rfl, hd, rfl⟩ := hrel
          by_cases hlt : k < n
          · have hks : k < s.size := by rw [Hn.out]; exact hlt
            have hat := toList_at s k hks
            obtain ⟨b, hb⟩ : ∃ b, s[k] = b := ⟨_, rfl⟩
            rw [hb] at hat
            obtain ⟨C, hC⟩ : ∃ C : Int, (b.toNat : Int) = C := ⟨_, rfl⟩
            have hi0 : (0 : Int) ≤ (k : Int) := by omega
            have hi1 : (k : Int) < (n : Int) := by omega
            have HC := Lib.hid hC
            have Hat := Lib.hid hat
            have hsn := Hn.out
            by_cases hlo : C < 48
            · have HX : Hid (FormIs s w (.returned (.bool false)) w) := Lib.hid (HNo.out (fun hd => by have h1 := hd b (List.mem_of_getElem? Hat.out); have := h1.1; have := HC.out; omega))
              clear hat
              go_wp2_with fail
              go_ret
              exact HX.out
            · by_cases hhi : 57 < C
              · have HX : Hid (FormIs s w (.returned (.bool false)) w) := Lib.hid (HNo.out (fun hd => by have h1 := hd b (List.mem_of_getElem? Hat.out); have := h1.2; have := HC.out; omega))
                clear hat
                go_wp2_with fail
                go_ret
                exact HX.out
              · have hd1 : Hid (∀ j b, j < k + 1 → s.data.toList[j]? = some b → isDig b) := Lib.hid (fun j b' hj hjb => by
                  by_cases hjk : j < k
                  · exact hd.out j b' hjk hjb
                  · have : j = k := by omega
                    subst this
                    rw [Hat.out] at hjb
                    cases hjb
                    have := HC.out
                    exact ⟨by omega, by omega⟩)
                clear hd hat
                go_wp2_with fail
                go_roundw
                case rel => first | exact ⟨k + 1, by omega, by go_num, hd1⟩ | exact ⟨k + 1, by omega, by go_num, hd1, trivial⟩ | exact ⟨k + 1, by omega, by go_num, hd1, rfl⟩
                case measure => simp [intOf]; omega
          · obtain rfl : k = n := by omega
            have HX : Hid (FormIs s w (.returned (.bool true)) w) := Lib.hid (HYes.out (fun b hb => by
              obtain ⟨j, hj⟩ := List.mem_iff_getElem?.1 hb
              exact hd.out j b (by have := (List.getElem?_eq_some_iff.1 hj).1; have := Hn.out; simp at *; omega) hj))
            clear hd
            go_wp2_with fail
            go_ret
            exact HX.out
      · have hzb : (Z == 48) = false := by simp [hz]
        clear hhead hat hl
        go_enter Tryz.func114, Tryz.ntmps114
        go_wp2_with fail
        go_loopw [18] (fun i wr => ∃ k : Nat, k ≤ n ∧ i = .int .i64 (k : Int) ∧ Hid (∀ j b, j < k → s.data.toList[j]? = some b → isDig b) ∧ w = wr) (fun i _ => n - (intOf i).toNat)
        case atStart => exact ⟨0, by omega, rfl, Lib.hid (fun j b hj => by omega), rfl⟩
        case round =>
          obtain ⟨k, hk, rfl, hd, rfl⟩ := hrel
          by_cases hlt : k < n
          · have hks : k < s.size := by rw [Hn.out]; exact hlt
            have hat := toList_at s k hks
            obtain ⟨b, hb⟩ : ∃ b, s[k] = b := ⟨_, rfl⟩
            rw [hb] at hat
            obtain ⟨C, hC⟩ : ∃ C : Int, (b.toNat : Int) = C := ⟨_, rfl⟩
            have hi0 : (0 : Int) ≤ (k : Int) := by omega
            have hi1 : (k : Int) < (n : Int) := by omega
            have HC := Lib.hid hC
            have Hat := Lib.hid hat
            have hsn := Hn.out
            by_cases hlo : C < 48
            · have HX : Hid (FormIs s w (.returned (.bool false)) w) := Lib.hid (HNo.out (fun hd => by have h1 := hd b (List.mem_of_getElem? Hat.out); have := h1.1; have := HC.out; omega))
              clear hat
              go_wp2_with fail
              go_ret
              exact HX.out
            · by_cases hhi : 57 < C
              · have HX : Hid (FormIs s w (.returned (.bool false)) w) := Lib.hid (HNo.out (fun hd => by have h1 := hd b (List.mem_of_getElem? Hat.out); have := h1.2; have := HC.out; omega))
                clear hat
                go_wp2_with fail
                go_ret
                exact HX.out
              · have hd1 : Hid (∀ j b, j < k + 1 → s.data.toList[j]? = some b → isDig b) := Lib.hid (fun j b' hj hjb => by
                  by_cases hjk : j < k
                  · exact hd.out j b' hjk hjb
                  · have : j = k := by omega
                    subst this
                    rw [Hat.out] at hjb
                    cases hjb
                    have := HC.out
                    exact ⟨by omega, by omega⟩)
                clear hd hat
                go_wp2_with fail
                go_roundw
                case rel => first | exact ⟨k + 1, by omega, by go_num, hd1⟩ | exact ⟨k + 1, by omega, by go_num, hd1, trivial⟩ | exact ⟨k + 1, by omega, by go_num, hd1, rfl⟩
                case measure => simp [intOf]; omega
          · obtain rfl : k = n := by omega
            have HX : Hid (FormIs s w (.returned (.bool true)) w) := Lib.hid (HYes.out (fun b hb => by
              obtain ⟨j, hj⟩ := List.mem_iff_getElem?.1 hb
              exact hd.out j b (by have := (List.getElem?_eq_some_iff.1 hj).1; have := Hn.out; simp at *; omega) hj))
            clear hd
            go_wp2_with fail
            go_ret
            exact HX.out
/-- The number of digits. -/
def dv (l : List UInt8) : Nat := l.foldl (fun a b => a * 10 + (b.toNat - 48)) 0
theorem dv_snoc (l : List UInt8) (b : UInt8) : dv (l ++ [b]) = dv l * 10 + (b.toNat - 48) := by unfold dv; rw [List.foldl_append]; rfl
theorem dv_lt : ∀ (n : Nat) (l : List UInt8), l.length = n → (∀ b ∈ l, isDig b) → dv l < 10 ^ n := by
  intro n
  induction n with
  | zero => intro l hl _; rw [List.eq_nil_of_length_eq_zero hl]; decide
  | succ n ih =>
    intro l hl hd
    rcases List.eq_nil_or_concat l with rfl | ⟨r, b, rfl⟩
    · simp at hl
    · rw [List.concat_eq_append] at *
      rw [dv_snoc, Nat.pow_succ]
      have h1 := ih r (by simp at hl; omega) (fun x hx => hd x (List.mem_append_left _ hx))
      have h2 := hd b (by simp)
      unfold isDig at h2
      omega
set_option maxRecDepth 100000 in
set_option maxHeartbeats 1000000 in
theorem part_any (s : ByteArray) (w : World) (hs : s.size ≤ 19) (hd : ∀ b ∈ s.data.toList, isDig b) :
    Calls Tryz.prog 116 #[.string s] w fun e w' => e = .returned (.int .u64 (dv s.data.toList : Nat)) ∧ w = w' := by
  have HD := Lib.hid hd
  obtain ⟨D, hD⟩ : ∃ D : Int, ((dv s.data.toList : Nat) : Int) = D := ⟨_, rfl⟩
  have HDv := Lib.hid hD
  rw [hD]
  obtain ⟨n, hn⟩ : ∃ n, s.size = n := ⟨_, rfl⟩
  have Hn := Lib.hid hn
  have hn19 : n ≤ 19 := by omega
  clear hd hD hs
  go_enter Tryz.func116, Tryz.ntmps116
  go_wp2_with fail
  go_loop [3, 7] (fun v i => ∃ (k : Nat) (V : Int), k ≤ n ∧ i = .int .i64 (k : Int) ∧ v = .int .u64 V ∧ Hid (V = (dv (s.data.toList.take k) : Nat))) (fun _ i => n - (intOf i).toNat)
  case atStart => exact ⟨0, 0, by omega, rfl, rfl, Lib.hid (by simp [dv])⟩
  case round =>
    obtain ⟨k, V, hk, rfl, rfl, hV⟩ := hrel
    by_cases hlt : k < n
    · have hks : k < s.size := by rw [Hn.out]; exact hlt
      have hat := toList_at s k hks
      obtain ⟨b, hb⟩ : ∃ b, s[k] = b := ⟨_, rfl⟩
      rw [hb] at hat
      have hdb := HD.out b (List.mem_of_getElem? hat)
      have hl : (s.data.toList.take k).length = k := by rw [List.length_take]; have : s.data.toList.length = s.size := by simp
                                                        omega
      have hlt10 := dv_lt k (s.data.toList.take k) hl (fun x hx => HD.out x (List.mem_of_mem_take hx))
      have h18 : 10 ^ k ≤ 10 ^ 18 := Nat.pow_le_pow_right (by decide) (by omega)
      have e18 : (10 : Nat) ^ 18 = 1000000000000000000 := by decide
      have htk : s.data.toList.take (k + 1) = s.data.toList.take k ++ [b] := by rw [List.take_add_one, hat]; rfl
      obtain ⟨C, hC⟩ : ∃ C : Int, (b.toNat : Int) = C := ⟨_, rfl⟩
      obtain ⟨E, hE⟩ : ∃ E : Int, ((b.toNat - 48 : Nat) : Int) = E := ⟨_, rfl⟩
      unfold isDig at hdb
      have e1 : IntKind.u8.wrap (C - 48) = E := by
        rw [← hC, ← hE]
        simp [IntKind.wrap, IntKind.bits, IntKind.signed]; omega
      obtain ⟨V1, hV1⟩ : ∃ V1 : Int, ((dv (s.data.toList.take (k + 1)) : Nat) : Int) = V1 := ⟨_, rfl⟩
      have e2 : IntKind.u64.wrap (IntKind.u64.wrap (V * 10) + E) = V1 := by
        rw [← hV1, htk, dv_snoc, hV.out, ← hE]
        simp only [IntKind.wrap_u64]
        omega
      have hi0 : (0 : Int) ≤ (k : Int) := by omega
      have hi1 : (k : Int) < (n : Int) := by omega
      have HV1 := Lib.hid hV1.symm
      have hE0 : 0 ≤ E ∧ E ≤ 9 := by omega
      obtain ⟨hE0, hE9⟩ := hE0
      clear hat hdb hlt10 h18 e18 htk hE hV hV1 hl
      go_wp2_with fail
      go_round
      case rel => exact ⟨k + 1, V1, by omega, by go_num, rfl, HV1⟩
      case measure => simp [intOf]; omega
    · obtain rfl : k = n := by omega
      have hfin : V = D := by
        rw [hV.out, ← HDv.out, List.take_of_length_le (by have : s.data.toList.length = s.size := by simp
                                                          omega)]
      subst hfin
      clear hV
      go_wp2_with fail
      go_ret
      exact ⟨rfl, rfl⟩
end Go.Proofs.YtllmacokhjmdgaaGreatDoor
