/-
  The document's own reading of a text: the character at its front; where it ends.
-/
import Derived.Test.YtkebjllehegjlaaGreatDoorUtCalls
namespace Go.Proofs.YtkebjllehegjlaaGreatDoor
open Go.RowKit
set_option linter.unusedVariables false

theorem uTail_lt : ∀ (n r : Nat) (t : List UInt8) (q : Nat), uTail n r t = some q → q < (r + 1) * 64 ^ n := by
  intro n
  induction n with
  | zero => intro r t q h; simp only [uTail, Option.some.injEq] at h; subst h; simp
  | succ n ih =>
    intro r t q h
    match t with
    | [] => simp [uTail] at h
    | d :: t =>
      simp only [uTail] at h
      split at h
      · rename_i hd
        have := ih _ _ _ h
        have h2 : (r * 64 + (d.toNat - 128) + 1) * 64 ^ n ≤ ((r + 1) * 64) * 64 ^ n := Nat.mul_le_mul_right _ (by omega)
        rw [Nat.pow_succ, Nat.mul_comm (64 ^ n) 64, ← Nat.mul_assoc]
        omega
      · cases h
theorem list_cons (s : ByteArray) (h : 0 < s.size) : s.data.toList = s[0] :: s.data.toList.drop 1 := by
  have := drop_cons s 0 h
  simpa using this
theorem u1_one (c : UInt8) (t : List UInt8) (h : c.toNat < 128) : u1 (c :: t) = (c.toNat, 1) := by
  have e : uHead c.toNat = (c.toNat, 1) := by unfold uHead; rw [if_pos h]
  exact u1_good c t _ 1 c.toNat e (by decide) rfl (by unfold uSize; rw [if_neg (by omega), if_pos h])
theorem u1_zero (l : List UInt8) (h : (u1 l).2 = 0) : u1 l = (0, 0) := by
  match l with
  | [] => rfl
  | c :: t =>
    unfold u1 at h ⊢
    by_cases h0 : (uHead c.toNat).2 = 0
    · simp [h0]
    · simp only [h0, if_false] at h ⊢
      cases ht : uTail ((uHead c.toNat).2 - 1) (uHead c.toNat).1 t with
      | none => simp
      | some r =>
        simp only [ht] at h ⊢
        split
        · rename_i hs; rw [if_pos hs] at h; exact absurd h h0
        · rfl
def PairIs (l : List UInt8) (e : Ending) : Prop := e = .returned (.tuple #[.int .i64 (u1 l).1, .int .i64 (u1 l).2])
theorem pair_zero (l : List UInt8) (h : (u1 l).2 = 0) : PairIs l (.returned (.tuple #[.int .i64 0, .int .i64 0])) := by unfold PairIs; rw [u1_zero l h]; rfl
set_option maxRecDepth 100000 in
set_option maxHeartbeats 1000000 in
theorem refchar1_one (s : ByteArray) (w : World) (h0 : 0 < s.size) (hc : s[0].toNat < 128) :
    Calls Tryz.prog 16 #[.string s] w fun e w' => PairIs s.data.toList e ∧ w = w' := by
  have hv : Hid (u1 s.data.toList = (s[0].toNat, 1)) := Lib.hid (by rw [list_cons s h0]; exact u1_one _ _ hc)
  go_enter Tryz.func16, Tryz.ntmps16
  go_wp2
  go_ret2
  exact ⟨by unfold PairIs; rw [hv.out]; rfl, rfl⟩
set_option maxRecDepth 100000 in
set_option maxHeartbeats 1000000 in
theorem refchar1_none (s : ByteArray) (w : World) (h0 : 0 < s.size) (hc : (128 ≤ s[0].toNat ∧ s[0].toNat < 192) ∨ 248 ≤ s[0].toNat) :
    Calls Tryz.prog 16 #[.string s] w fun e w' => PairIs s.data.toList e ∧ w = w' := by
  have hv : Hid ((u1 s.data.toList).2 = 0) := Lib.hid (by
    rw [list_cons s h0]
    exact u1_none _ _ 0 0 (by unfold uHead; rcases hc with ⟨h1, h2⟩ | h1; · rw [if_neg (by omega), if_pos h2]
                              · rw [if_neg (by omega), if_neg (by omega), if_neg (by omega), if_neg (by omega), if_neg (by omega)]) (Or.inl rfl))
  have hb : s[0].toNat < 256 := UInt8.toNat_lt _
  rcases hc with ⟨h1, h2⟩ | h1
  · go_enter Tryz.func16, Tryz.ntmps16
    go_wp2
    go_ret2
    exact ⟨pair_zero _ hv.out, rfl⟩
  · go_enter Tryz.func16, Tryz.ntmps16
    go_wp2
    go_ret2
    exact ⟨pair_zero _ hv.out, rfl⟩

theorem size_is2 (q : Nat) (h1 : 128 ≤ q) (h2 : q < 2048) (h3 : q ≤ 1114111) (h4 : q < 55296 ∨ 57343 < q) : uSize q = 2 := by
  unfold uSize
  rw [if_neg (by omega)]
  repeat (first | rw [if_pos (by omega)] | rw [if_neg (by omega)])
theorem size_not2 (q : Nat) (h1 : q < 128 ∨ 1114111 < q ∨ (55296 ≤ q ∧ q ≤ 57343)) : uSize q ≠ 2 := by
  unfold uSize
  (repeat' split) <;> omega
set_option maxRecDepth 100000 in
set_option maxHeartbeats 2000000 in
theorem refchar1_two (s : ByteArray) (w : World) (hs : s.size ≤ 1000000) (h0 : 0 < s.size) (hc1 : 192 ≤ s[0].toNat) (hc2 : s[0].toNat < 224) :
    Calls Tryz.prog 16 #[.string s] w fun e w' => PairIs s.data.toList e ∧ w = w' := by
  have hH : uHead s[0].toNat = (s[0].toNat - 192, 2) := by unfold uHead; rw [if_neg (by omega), if_neg (by omega), if_pos hc2]
  have hL := list_cons s h0
  have Hshort : Hid (s.size < 2 → (u1 s.data.toList).2 = 0) := Lib.hid (fun h => by
    rw [hL]; exact u1_short _ _ _ _ hH (by simp; omega))
  have Hnone : Hid (uTail 1 (s[0].toNat - 192) (s.data.toList.drop 1) = none → (u1 s.data.toList).2 = 0) := Lib.hid (fun h => by
    rw [hL]; exact u1_none _ _ _ _ hH (Or.inr h))
  have Hbad : Hid (∀ q, uTail 1 (s[0].toNat - 192) (s.data.toList.drop 1) = some q → uSize q ≠ 2 → (u1 s.data.toList).2 = 0) := Lib.hid (fun q h h' => by
    rw [hL]; exact u1_bad _ _ _ _ q hH h h')
  have Hgood : Hid (∀ q, uTail 1 (s[0].toNat - 192) (s.data.toList.drop 1) = some q → uSize q = 2 → u1 s.data.toList = (q, 2)) := Lib.hid (fun q h h' => by
    rw [hL]; exact u1_good _ _ _ _ q hH (by decide) h h')
  have Hlt : Hid (∀ q, uTail 1 (s[0].toNat - 192) (s.data.toList.drop 1) = some q → q < 2048) := Lib.hid (fun q h => by
    have := uTail_lt _ _ _ _ h
    have h2 : (s[0].toNat - 192 + 1) * 64 ^ 1 ≤ 32 * 64 ^ 1 := Nat.mul_le_mul_right _ (by omega)
    simp only [Nat.reducePow, Nat.reduceMul] at this h2
    omega)
  clear hH hL
  by_cases hsh : s.size < 2
  · have hv := Lib.hid (Hshort.out hsh)
    go_enter Tryz.func16, Tryz.ntmps16
    go_wp2
    go_ret2
    exact ⟨pair_zero _ hv.out, rfl⟩
  · obtain ⟨R, hR⟩ : ∃ R, s[0].toNat - 192 = R := ⟨_, rfl⟩
    have hRl : R < 64 := by omega
    have HR : Hid ((s[0].toNat : Int) - 192 = (R : Int)) := Lib.hid (by omega)
    rw [hR] at Hnone Hbad Hgood Hlt
    clear hR Hshort
    have t0 : decide ((s[0].toNat : Int) < 128) = false := by simp; omega
    have t1 : decide (192 ≤ (s[0].toNat : Int)) = true := by simp; omega
    have t2 : decide ((s[0].toNat : Int) < 224) = true := by simp; omega
    have t9 : decide ((s.size : Int) < 2) = false := by simp; omega
    go_enter Tryz.func16, Tryz.ntmps16
    go_wp2
    go_loop [6, 8] (fun r i => ∃ j q : Nat, j + 1 ≤ 2 ∧ Hid (q < 64 * 64 ^ j) ∧ i = .int .i64 (1 + j : Nat) ∧ r = .int .i64 q ∧ Hid (uTail 1 R (s.data.toList.drop 1) = uTail (1 - j) q (s.data.toList.drop (1 + j)))) (fun _ i => s.size - (intOf i).toNat)
    case atStart => exact ⟨0, R, by omega, Lib.hid (by simpa using hRl), by go_num, by rw [HR.out], Lib.hid rfl⟩
    case round =>
      obtain ⟨j, q, hj, hq, rfl, rfl, hut⟩ := hrel
      have hq2 : q < 100000000 := by
        have h1 : 64 ^ j ≤ 64 ^ 3 := Nat.pow_le_pow_right (by omega) (by omega)
        have := hq.out
        simp at h1
        omega
      by_cases hjl : 1 + j < 2
      · have hidx : 1 + j < s.size := by omega
        have hd : s[1 + j].toNat < 256 := UInt8.toNat_lt _
        have hds := Lib.hid (drop_cons s (1 + j) hidx)
        have hut1 : Hid (1 - j = (1 - (j + 1)) + 1) := Lib.hid (by omega)
        by_cases hlo : s[1 + j].toNat < 128
        · have hv := Lib.hid (Hnone.out (by rw [hut.out, hds.out, hut1.out, uTail_fall _ _ _ _ (by omega)]))
          clear hut hds hut1 hq
          go_wp2
          go_ret2
          exact ⟨pair_zero _ hv.out, rfl⟩
        · by_cases hhi : 192 ≤ s[1 + j].toNat
          · have hv := Lib.hid (Hnone.out (by rw [hut.out, hds.out, hut1.out, uTail_fall _ _ _ _ (by omega)]))
            clear hut hds hut1 hq
            go_wp2
            go_ret2
            exact ⟨pair_zero _ hv.out, rfl⟩
          · have hut' : Hid (uTail 1 R (s.data.toList.drop 1) = uTail (1 - (j + 1)) (q * 64 + (s[1 + j].toNat - 128)) (s.data.toList.drop (1 + (j + 1)))) := Lib.hid (by
              rw [hut.out, hds.out, hut1.out, uTail_step _ _ _ _ (by omega) (by omega)]; rfl)
            have hq' : Hid (q * 64 + (s[1 + j].toNat - 128) < 64 * 64 ^ (j + 1)) := Lib.hid (by have := hq.out; rw [Nat.pow_succ]; omega)
            have hnum : Hid ((q : Int) * 64 + (s[1 + j].toNat : Int) - 128 = ((q * 64 + (s[1 + j].toNat - 128) : Nat) : Int)) := Lib.hid (by omega)
            clear hut hds hut1 hq
            go_wp2
            go_round
            case rel => exact ⟨j + 1, _, by omega, hq', by go_num, by rw [hnum.out], hut'⟩
            case measure => simp [intOf]; omega
      · have hsome : uTail 1 R (s.data.toList.drop 1) = some q := by rw [hut.out, show 1 - j = 0 from by omega]; rfl
        have hb := Hlt.out q hsome
        by_cases c1 : q < 128
        · have hv := Lib.hid (Hbad.out q hsome (size_not2 q (.inl c1)))
          clear hut hq hsome
          go_wp2
          all_goals go_ret2
          all_goals exact ⟨pair_zero _ hv.out, rfl⟩
        · by_cases c2 : 1114111 < q
          · have hv := Lib.hid (Hbad.out q hsome (size_not2 q (.inr (.inl c2))))
            clear hut hq hsome
            go_wp2
            all_goals go_ret2
            all_goals exact ⟨pair_zero _ hv.out, rfl⟩
          · by_cases c3 : q < 55296
            · have hv := Lib.hid (Hgood.out q hsome (size_is2 q (by omega) hb (by omega) (.inl c3)))
              clear hut hq hsome
              go_wp2
              all_goals go_ret2
              all_goals exact ⟨by unfold PairIs; rw [hv.out]; rfl, rfl⟩
            · by_cases c4 : q ≤ 57343
              · have hv := Lib.hid (Hbad.out q hsome (size_not2 q (.inr (.inr ⟨by omega, c4⟩))))
                clear hut hq hsome
                go_wp2
                all_goals go_ret2
                all_goals exact ⟨pair_zero _ hv.out, rfl⟩
              · have hv := Lib.hid (Hgood.out q hsome (size_is2 q (by omega) hb (by omega) (.inr (by omega))))
                clear hut hq hsome
                go_wp2
                all_goals go_ret2
                all_goals exact ⟨by unfold PairIs; rw [hv.out]; rfl, rfl⟩

theorem size_is3 (q : Nat) (h1 : 2048 ≤ q) (h2 : q < 65536) (h3 : q ≤ 1114111) (h4 : q < 55296 ∨ 57343 < q) : uSize q = 3 := by
  unfold uSize
  rw [if_neg (by omega)]
  repeat (first | rw [if_pos (by omega)] | rw [if_neg (by omega)])
theorem size_not3 (q : Nat) (h1 : q < 2048 ∨ 1114111 < q ∨ (55296 ≤ q ∧ q ≤ 57343)) : uSize q ≠ 3 := by
  unfold uSize
  (repeat' split) <;> omega
set_option maxRecDepth 100000 in
set_option maxHeartbeats 2000000 in
theorem refchar1_three (s : ByteArray) (w : World) (hs : s.size ≤ 1000000) (h0 : 0 < s.size) (hc1 : 224 ≤ s[0].toNat) (hc2 : s[0].toNat < 240) :
    Calls Tryz.prog 16 #[.string s] w fun e w' => PairIs s.data.toList e ∧ w = w' := by
  have hH : uHead s[0].toNat = (s[0].toNat - 224, 3) := by unfold uHead; rw [if_neg (by omega), if_neg (by omega), if_neg (by omega), if_pos hc2]
  have hL := list_cons s h0
  have Hshort : Hid (s.size < 3 → (u1 s.data.toList).2 = 0) := Lib.hid (fun h => by
    rw [hL]; exact u1_short _ _ _ _ hH (by simp; omega))
  have Hnone : Hid (uTail 2 (s[0].toNat - 224) (s.data.toList.drop 1) = none → (u1 s.data.toList).2 = 0) := Lib.hid (fun h => by
    rw [hL]; exact u1_none _ _ _ _ hH (Or.inr h))
  have Hbad : Hid (∀ q, uTail 2 (s[0].toNat - 224) (s.data.toList.drop 1) = some q → uSize q ≠ 3 → (u1 s.data.toList).2 = 0) := Lib.hid (fun q h h' => by
    rw [hL]; exact u1_bad _ _ _ _ q hH h h')
  have Hgood : Hid (∀ q, uTail 2 (s[0].toNat - 224) (s.data.toList.drop 1) = some q → uSize q = 3 → u1 s.data.toList = (q, 3)) := Lib.hid (fun q h h' => by
    rw [hL]; exact u1_good _ _ _ _ q hH (by decide) h h')
  have Hlt : Hid (∀ q, uTail 2 (s[0].toNat - 224) (s.data.toList.drop 1) = some q → q < 65536) := Lib.hid (fun q h => by
    have := uTail_lt _ _ _ _ h
    have h2 : (s[0].toNat - 224 + 1) * 64 ^ 2 ≤ 16 * 64 ^ 2 := Nat.mul_le_mul_right _ (by omega)
    simp only [Nat.reducePow, Nat.reduceMul] at this h2
    omega)
  clear hH hL
  by_cases hsh : s.size < 3
  · have hv := Lib.hid (Hshort.out hsh)
    go_enter Tryz.func16, Tryz.ntmps16
    go_wp2
    go_ret2
    exact ⟨pair_zero _ hv.out, rfl⟩
  · obtain ⟨R, hR⟩ : ∃ R, s[0].toNat - 224 = R := ⟨_, rfl⟩
    have hRl : R < 64 := by omega
    have HR : Hid ((s[0].toNat : Int) - 224 = (R : Int)) := Lib.hid (by omega)
    rw [hR] at Hnone Hbad Hgood Hlt
    clear hR Hshort
    have t0 : decide ((s[0].toNat : Int) < 128) = false := by simp; omega
    have t1 : decide (192 ≤ (s[0].toNat : Int)) = true := by simp; omega
    have t2 : decide ((s[0].toNat : Int) < 224) = false := by simp; omega
    have t3 : decide (224 ≤ (s[0].toNat : Int)) = true := by simp; omega
    have t4 : decide ((s[0].toNat : Int) < 240) = true := by simp; omega
    have t9 : decide ((s.size : Int) < 3) = false := by simp; omega
    go_enter Tryz.func16, Tryz.ntmps16
    go_wp2
    go_loop [6, 8] (fun r i => ∃ j q : Nat, j + 1 ≤ 3 ∧ Hid (q < 64 * 64 ^ j) ∧ i = .int .i64 (1 + j : Nat) ∧ r = .int .i64 q ∧ Hid (uTail 2 R (s.data.toList.drop 1) = uTail (2 - j) q (s.data.toList.drop (1 + j)))) (fun _ i => s.size - (intOf i).toNat)
    case atStart => exact ⟨0, R, by omega, Lib.hid (by simpa using hRl), by go_num, by rw [HR.out], Lib.hid rfl⟩
    case round =>
      obtain ⟨j, q, hj, hq, rfl, rfl, hut⟩ := hrel
      have hq2 : q < 100000000 := by
        have h1 : 64 ^ j ≤ 64 ^ 3 := Nat.pow_le_pow_right (by omega) (by omega)
        have := hq.out
        simp at h1
        omega
      by_cases hjl : 1 + j < 3
      · have hidx : 1 + j < s.size := by omega
        have hd : s[1 + j].toNat < 256 := UInt8.toNat_lt _
        have hds := Lib.hid (drop_cons s (1 + j) hidx)
        have hut1 : Hid (2 - j = (2 - (j + 1)) + 1) := Lib.hid (by omega)
        by_cases hlo : s[1 + j].toNat < 128
        · have hv := Lib.hid (Hnone.out (by rw [hut.out, hds.out, hut1.out, uTail_fall _ _ _ _ (by omega)]))
          clear hut hds hut1 hq
          go_wp2
          go_ret2
          exact ⟨pair_zero _ hv.out, rfl⟩
        · by_cases hhi : 192 ≤ s[1 + j].toNat
          · have hv := Lib.hid (Hnone.out (by rw [hut.out, hds.out, hut1.out, uTail_fall _ _ _ _ (by omega)]))
            clear hut hds hut1 hq
            go_wp2
            go_ret2
            exact ⟨pair_zero _ hv.out, rfl⟩
          · have hut' : Hid (uTail 2 R (s.data.toList.drop 1) = uTail (2 - (j + 1)) (q * 64 + (s[1 + j].toNat - 128)) (s.data.toList.drop (1 + (j + 1)))) := Lib.hid (by
              rw [hut.out, hds.out, hut1.out, uTail_step _ _ _ _ (by omega) (by omega)]; rfl)
            have hq' : Hid (q * 64 + (s[1 + j].toNat - 128) < 64 * 64 ^ (j + 1)) := Lib.hid (by have := hq.out; rw [Nat.pow_succ]; omega)
            have hnum : Hid ((q : Int) * 64 + (s[1 + j].toNat : Int) - 128 = ((q * 64 + (s[1 + j].toNat - 128) : Nat) : Int)) := Lib.hid (by omega)
            clear hut hds hut1 hq
            go_wp2
            go_round
            case rel => exact ⟨j + 1, _, by omega, hq', by go_num, by rw [hnum.out], hut'⟩
            case measure => simp [intOf]; omega
      · have hsome : uTail 2 R (s.data.toList.drop 1) = some q := by rw [hut.out, show 2 - j = 0 from by omega]; rfl
        have hb := Hlt.out q hsome
        by_cases c1 : q < 2048
        · have hv := Lib.hid (Hbad.out q hsome (size_not3 q (.inl c1)))
          clear hut hq hsome
          go_wp2
          all_goals go_ret2
          all_goals exact ⟨pair_zero _ hv.out, rfl⟩
        · by_cases c2 : 1114111 < q
          · have hv := Lib.hid (Hbad.out q hsome (size_not3 q (.inr (.inl c2))))
            clear hut hq hsome
            go_wp2
            all_goals go_ret2
            all_goals exact ⟨pair_zero _ hv.out, rfl⟩
          · by_cases c3 : q < 55296
            · have hv := Lib.hid (Hgood.out q hsome (size_is3 q (by omega) hb (by omega) (.inl c3)))
              clear hut hq hsome
              go_wp2
              all_goals go_ret2
              all_goals exact ⟨by unfold PairIs; rw [hv.out]; rfl, rfl⟩
            · by_cases c4 : q ≤ 57343
              · have hv := Lib.hid (Hbad.out q hsome (size_not3 q (.inr (.inr ⟨by omega, c4⟩))))
                clear hut hq hsome
                go_wp2
                all_goals go_ret2
                all_goals exact ⟨pair_zero _ hv.out, rfl⟩
              · have hv := Lib.hid (Hgood.out q hsome (size_is3 q (by omega) hb (by omega) (.inr (by omega))))
                clear hut hq hsome
                go_wp2
                all_goals go_ret2
                all_goals exact ⟨by unfold PairIs; rw [hv.out]; rfl, rfl⟩

theorem size_is4 (q : Nat) (h1 : 65536 ≤ q) (h2 : q < 2097152) (h3 : q ≤ 1114111) (h4 : q < 55296 ∨ 57343 < q) : uSize q = 4 := by
  unfold uSize
  rw [if_neg (by omega)]
  repeat (first | rw [if_pos (by omega)] | rw [if_neg (by omega)])
theorem size_not4 (q : Nat) (h1 : q < 65536 ∨ 1114111 < q ∨ (55296 ≤ q ∧ q ≤ 57343)) : uSize q ≠ 4 := by
  unfold uSize
  (repeat' split) <;> omega
set_option maxRecDepth 100000 in
set_option maxHeartbeats 2000000 in
theorem refchar1_four (s : ByteArray) (w : World) (hs : s.size ≤ 1000000) (h0 : 0 < s.size) (hc1 : 240 ≤ s[0].toNat) (hc2 : s[0].toNat < 248) :
    Calls Tryz.prog 16 #[.string s] w fun e w' => PairIs s.data.toList e ∧ w = w' := by
  have hH : uHead s[0].toNat = (s[0].toNat - 240, 4) := by unfold uHead; rw [if_neg (by omega), if_neg (by omega), if_neg (by omega), if_neg (by omega), if_pos hc2]
  have hL := list_cons s h0
  have Hshort : Hid (s.size < 4 → (u1 s.data.toList).2 = 0) := Lib.hid (fun h => by
    rw [hL]; exact u1_short _ _ _ _ hH (by simp; omega))
  have Hnone : Hid (uTail 3 (s[0].toNat - 240) (s.data.toList.drop 1) = none → (u1 s.data.toList).2 = 0) := Lib.hid (fun h => by
    rw [hL]; exact u1_none _ _ _ _ hH (Or.inr h))
  have Hbad : Hid (∀ q, uTail 3 (s[0].toNat - 240) (s.data.toList.drop 1) = some q → uSize q ≠ 4 → (u1 s.data.toList).2 = 0) := Lib.hid (fun q h h' => by
    rw [hL]; exact u1_bad _ _ _ _ q hH h h')
  have Hgood : Hid (∀ q, uTail 3 (s[0].toNat - 240) (s.data.toList.drop 1) = some q → uSize q = 4 → u1 s.data.toList = (q, 4)) := Lib.hid (fun q h h' => by
    rw [hL]; exact u1_good _ _ _ _ q hH (by decide) h h')
  have Hlt : Hid (∀ q, uTail 3 (s[0].toNat - 240) (s.data.toList.drop 1) = some q → q < 2097152) := Lib.hid (fun q h => by
    have := uTail_lt _ _ _ _ h
    have h2 : (s[0].toNat - 240 + 1) * 64 ^ 3 ≤ 8 * 64 ^ 3 := Nat.mul_le_mul_right _ (by omega)
    simp only [Nat.reducePow, Nat.reduceMul] at this h2
    omega)
  clear hH hL
  by_cases hsh : s.size < 4
  · have hv := Lib.hid (Hshort.out hsh)
    go_enter Tryz.func16, Tryz.ntmps16
    go_wp2
    go_ret2
    exact ⟨pair_zero _ hv.out, rfl⟩
  · obtain ⟨R, hR⟩ : ∃ R, s[0].toNat - 240 = R := ⟨_, rfl⟩
    have hRl : R < 64 := by omega
    have HR : Hid ((s[0].toNat : Int) - 240 = (R : Int)) := Lib.hid (by omega)
    rw [hR] at Hnone Hbad Hgood Hlt
    clear hR Hshort
    have t0 : decide ((s[0].toNat : Int) < 128) = false := by simp; omega
    have t1 : decide (192 ≤ (s[0].toNat : Int)) = true := by simp; omega
    have t2 : decide ((s[0].toNat : Int) < 224) = false := by simp; omega
    have t3 : decide (224 ≤ (s[0].toNat : Int)) = true := by simp; omega
    have t4 : decide ((s[0].toNat : Int) < 240) = false := by simp; omega
    have t5 : decide (240 ≤ (s[0].toNat : Int)) = true := by simp; omega
    have t6 : decide ((s[0].toNat : Int) < 248) = true := by simp; omega
    have t9 : decide ((s.size : Int) < 4) = false := by simp; omega
    go_enter Tryz.func16, Tryz.ntmps16
    go_wp2
    go_loop [6, 8] (fun r i => ∃ j q : Nat, j + 1 ≤ 4 ∧ Hid (q < 64 * 64 ^ j) ∧ i = .int .i64 (1 + j : Nat) ∧ r = .int .i64 q ∧ Hid (uTail 3 R (s.data.toList.drop 1) = uTail (3 - j) q (s.data.toList.drop (1 + j)))) (fun _ i => s.size - (intOf i).toNat)
    case atStart => exact ⟨0, R, by omega, Lib.hid (by simpa using hRl), by go_num, by rw [HR.out], Lib.hid rfl⟩
    case round =>
      obtain ⟨j, q, hj, hq, rfl, rfl, hut⟩ := hrel
      have hq2 : q < 100000000 := by
        have h1 : 64 ^ j ≤ 64 ^ 3 := Nat.pow_le_pow_right (by omega) (by omega)
        have := hq.out
        simp at h1
        omega
      by_cases hjl : 1 + j < 4
      · have hidx : 1 + j < s.size := by omega
        have hd : s[1 + j].toNat < 256 := UInt8.toNat_lt _
        have hds := Lib.hid (drop_cons s (1 + j) hidx)
        have hut1 : Hid (3 - j = (3 - (j + 1)) + 1) := Lib.hid (by omega)
        by_cases hlo : s[1 + j].toNat < 128
        · have hv := Lib.hid (Hnone.out (by rw [hut.out, hds.out, hut1.out, uTail_fall _ _ _ _ (by omega)]))
          clear hut hds hut1 hq
          go_wp2
          go_ret2
          exact ⟨pair_zero _ hv.out, rfl⟩
        · by_cases hhi : 192 ≤ s[1 + j].toNat
          · have hv := Lib.hid (Hnone.out (by rw [hut.out, hds.out, hut1.out, uTail_fall _ _ _ _ (by omega)]))
            clear hut hds hut1 hq
            go_wp2
            go_ret2
            exact ⟨pair_zero _ hv.out, rfl⟩
          · have hut' : Hid (uTail 3 R (s.data.toList.drop 1) = uTail (3 - (j + 1)) (q * 64 + (s[1 + j].toNat - 128)) (s.data.toList.drop (1 + (j + 1)))) := Lib.hid (by
              rw [hut.out, hds.out, hut1.out, uTail_step _ _ _ _ (by omega) (by omega)]; rfl)
            have hq' : Hid (q * 64 + (s[1 + j].toNat - 128) < 64 * 64 ^ (j + 1)) := Lib.hid (by have := hq.out; rw [Nat.pow_succ]; omega)
            have hnum : Hid ((q : Int) * 64 + (s[1 + j].toNat : Int) - 128 = ((q * 64 + (s[1 + j].toNat - 128) : Nat) : Int)) := Lib.hid (by omega)
            clear hut hds hut1 hq
            go_wp2
            go_round
            case rel => exact ⟨j + 1, _, by omega, hq', by go_num, by rw [hnum.out], hut'⟩
            case measure => simp [intOf]; omega
      · have hsome : uTail 3 R (s.data.toList.drop 1) = some q := by rw [hut.out, show 3 - j = 0 from by omega]; rfl
        have hb := Hlt.out q hsome
        by_cases c1 : q < 65536
        · have hv := Lib.hid (Hbad.out q hsome (size_not4 q (.inl c1)))
          clear hut hq hsome
          go_wp2
          all_goals go_ret2
          all_goals exact ⟨pair_zero _ hv.out, rfl⟩
        · by_cases c2 : 1114111 < q
          · have hv := Lib.hid (Hbad.out q hsome (size_not4 q (.inr (.inl c2))))
            clear hut hq hsome
            go_wp2
            all_goals go_ret2
            all_goals exact ⟨pair_zero _ hv.out, rfl⟩
          · by_cases c3 : q < 55296
            · have hv := Lib.hid (Hgood.out q hsome (size_is4 q (by omega) hb (by omega) (.inl c3)))
              clear hut hq hsome
              go_wp2
              all_goals go_ret2
              all_goals exact ⟨by unfold PairIs; rw [hv.out]; rfl, rfl⟩
            · by_cases c4 : q ≤ 57343
              · have hv := Lib.hid (Hbad.out q hsome (size_not4 q (.inr (.inr ⟨by omega, c4⟩))))
                clear hut hq hsome
                go_wp2
                all_goals go_ret2
                all_goals exact ⟨pair_zero _ hv.out, rfl⟩
              · have hv := Lib.hid (Hgood.out q hsome (size_is4 q (by omega) hb (by omega) (.inr (by omega))))
                clear hut hq hsome
                go_wp2
                all_goals go_ret2
                all_goals exact ⟨by unfold PairIs; rw [hv.out]; rfl, rfl⟩

theorem refchar1_any (s : ByteArray) (w : World) (hs : s.size ≤ 1000000) (h0 : 0 < s.size) :
    Calls Tryz.prog 16 #[.string s] w fun e w' => PairIs s.data.toList e ∧ w = w' := by
  have hb : s[0].toNat < 256 := UInt8.toNat_lt _
  rcases (show s[0].toNat < 128 ∨ (128 ≤ s[0].toNat ∧ s[0].toNat < 192 ∨ 248 ≤ s[0].toNat) ∨ (192 ≤ s[0].toNat ∧ s[0].toNat < 224) ∨ (224 ≤ s[0].toNat ∧ s[0].toNat < 240) ∨ (240 ≤ s[0].toNat ∧ s[0].toNat < 248) from by omega) with h | h | ⟨h, h'⟩ | ⟨h, h'⟩ | ⟨h, h'⟩
  · exact refchar1_one s w h0 h
  · exact refchar1_none s w h0 h
  · exact refchar1_two s w hs h0 h h'
  · exact refchar1_three s w hs h0 h h'
  · exact refchar1_four s w hs h0 h h'
end Go.Proofs.YtkebjllehegjlaaGreatDoor
