/-
  Every number's bytes; and what is read of them.
-/
import Derived.Test.YtkebjllehegjlaaGreatDoorUtPut2
namespace Go.Proofs.YtkebjllehegjlaaGreatDoor
open Go.RowKit
theorem uSize_cases (r : Nat) (h : uSize r ≠ 0) : (r < 128 ∧ uSize r = 1) ∨ (128 ≤ r ∧ r < 2048 ∧ uSize r = 2) ∨ (2048 ≤ r ∧ r < 65536 ∧ uSize r = 3) ∨ (65536 ≤ r ∧ r < 1114112 ∧ uSize r = 4) := by
  unfold uSize at *
  by_cases h0 : 1114111 < r ∨ (55296 ≤ r ∧ r ≤ 57343)
  · rw [if_pos h0] at h; exact absurd rfl h
  · rw [if_neg h0] at h ⊢
    by_cases h1 : r < 128
    · left; exact ⟨h1, by rw [if_pos h1]⟩
    · rw [if_neg h1]
      by_cases h2 : r < 2048
      · right; left; exact ⟨by omega, h2, by rw [if_pos h2]⟩
      · rw [if_neg h2]
        by_cases h3 : r < 65536
        · right; right; left; exact ⟨by omega, h3, by rw [if_pos h3]⟩
        · right; right; right; exact ⟨by omega, by omega, by rw [if_neg h3]⟩
theorem put_any (r : Int) (w : World) :
    Calls Tryz.prog 54 #[.int .i64 r] w fun e w' => e = .returned (.tuple #[.string (txt (uPutI r)), .bool (decide (uSizeI r ≠ 0))]) ∧ Below w.heap.size w w' := by
  by_cases h : uSizeI r = 0
  · have e1 : uPutI r = [] := by
      unfold uPutI
      by_cases h0 : r < 0
      · rw [if_pos h0]
      · rw [if_neg h0]
        unfold uSizeI at h
        rw [if_neg h0] at h
        unfold uPut
        rw [if_pos (by omega)]
    rw [e1, show decide (uSizeI r ≠ 0) = false from by simp [h]]
    exact put_none r w h
  · have h0 : ¬ r < 0 := fun h0 => h (by unfold uSizeI; rw [if_pos h0])
    obtain ⟨n, rfl⟩ : ∃ n : Nat, r = (n : Int) := ⟨r.toNat, by omega⟩
    rw [show decide (uSizeI (n : Int) ≠ 0) = true from by simp [h]]
    rw [uSizeI_nat] at h
    have hs : uSize n ≠ 0 := by omega
    have e : uPutI (n : Int) = uPut n := by unfold uPutI; rw [if_neg h0, Int.toNat_natCast]
    rw [e]
    rcases uSize_cases n hs with ⟨h1, h2⟩ | ⟨h1, h1', h2⟩ | ⟨h1, h1', h2⟩ | ⟨h1, h1', h2⟩
    · rw [show uPut n = [n] from by unfold uPut; rw [h2]; rfl]
      exact put_one n w h1
    · rw [show uPut n = [192 + n / 64, 128 + n % 64] from by unfold uPut; rw [h2]; rfl]
      exact put_two n w h1 h1'
    · rw [show uPut n = [224 + n / 4096, 128 + n / 64 % 64, 128 + n % 64] from by unfold uPut; rw [h2]; rfl]
      exact put_three n w h1 h1' h2
    · rw [show uPut n = [240 + n / 262144, 128 + n / 4096 % 64, 128 + n / 64 % 64, 128 + n % 64] from by unfold uPut; rw [h2]; rfl]
      exact put_four n w h1 h1' h2

theorem tail1 (m q x : Nat) (t : List UInt8) (hx : x < 64) : uTail (m + 1) q (UInt8.ofNat (128 + x) :: t) = uTail m (q * 64 + x) t := by
  have e := ofNat_toNat (128 + x) (by omega)
  rw [uTail_step m q _ t (by omega) (by omega), e, show 128 + x - 128 = x from by omega]
/-- What is read of a character's bytes. -/
theorem u1_put (r : Nat) (h : uSize r ≠ 0) (t : List UInt8) : u1 ((uPut r).map UInt8.ofNat ++ t) = (r, uSize r) := by
  rcases uSize_cases r h with ⟨h1, h2⟩ | ⟨h1, h1', h2⟩ | ⟨h1, h1', h2⟩ | ⟨h1, h1', h2⟩
  · rw [show uPut r = [r] from by unfold uPut; rw [h2]; rfl, h2]
    simp only [List.map_cons, List.map_nil, List.cons_append, List.nil_append]
    have hh : uHead (UInt8.ofNat r).toNat = (r, 1) := by
      rw [ofNat_toNat r (by omega)]; unfold uHead; rw [if_pos h1]
    have ht : uTail (1 - 1) r t = some r := by
      show uTail 0 r t = some r
      unfold uTail; rfl
    exact u1_good _ _ r 1 r hh (by decide) ht h2
  · rw [show uPut r = [192 + r / 64, 128 + r % 64] from by unfold uPut; rw [h2]; rfl, h2]
    simp only [List.map_cons, List.map_nil, List.cons_append, List.nil_append]
    have hh : uHead (UInt8.ofNat (192 + r / 64)).toNat = (r / 64, 2) := by
      rw [ofNat_toNat _ (by omega)]; unfold uHead; rw [if_neg (by omega), if_neg (by omega), if_pos (by omega), show 192 + r / 64 - 192 = r / 64 from by omega]
    have ht : uTail (2 - 1) (r / 64) (UInt8.ofNat (128 + r % 64) :: t) = some r := by
      show uTail (0 + 1) _ _ = _
      rw [tail1 0 _ _ _ (by omega)]
      unfold uTail
      exact congrArg some (by omega)
    exact u1_good _ _ (r / 64) 2 r hh (by decide) ht h2
  · rw [show uPut r = [224 + r / 4096, 128 + r / 64 % 64, 128 + r % 64] from by unfold uPut; rw [h2]; rfl, h2]
    simp only [List.map_cons, List.map_nil, List.cons_append, List.nil_append]
    have hh : uHead (UInt8.ofNat (224 + r / 4096)).toNat = (r / 4096, 3) := by
      rw [ofNat_toNat _ (by omega)]; unfold uHead; rw [if_neg (by omega), if_neg (by omega), if_neg (by omega), if_pos (by omega), show 224 + r / 4096 - 224 = r / 4096 from by omega]
    have ht : uTail (3 - 1) (r / 4096) (UInt8.ofNat (128 + r / 64 % 64) :: UInt8.ofNat (128 + r % 64) :: t) = some r := by
      show uTail (1 + 1) _ _ = _
      rw [tail1 1 _ _ _ (by omega), tail1 0 _ _ _ (by omega)]
      unfold uTail
      exact congrArg some (by omega)
    exact u1_good _ _ (r / 4096) 3 r hh (by decide) ht h2
  · rw [show uPut r = [240 + r / 262144, 128 + r / 4096 % 64, 128 + r / 64 % 64, 128 + r % 64] from by unfold uPut; rw [h2]; rfl, h2]
    simp only [List.map_cons, List.map_nil, List.cons_append, List.nil_append]
    have hh : uHead (UInt8.ofNat (240 + r / 262144)).toNat = (r / 262144, 4) := by
      rw [ofNat_toNat _ (by omega)]; unfold uHead; rw [if_neg (by omega), if_neg (by omega), if_neg (by omega), if_neg (by omega), if_pos (by omega), show 240 + r / 262144 - 240 = r / 262144 from by omega]
    have ht : uTail (4 - 1) (r / 262144) (UInt8.ofNat (128 + r / 4096 % 64) :: UInt8.ofNat (128 + r / 64 % 64) :: UInt8.ofNat (128 + r % 64) :: t) = some r := by
      show uTail (2 + 1) _ _ = _
      rw [tail1 2 _ _ _ (by omega), tail1 1 _ _ _ (by omega), tail1 0 _ _ _ (by omega)]
      unfold uTail
      exact congrArg some (by omega)
    exact u1_good _ _ (r / 262144) 4 r hh (by decide) ht h2
theorem uPut_length (r : Nat) : (uPut r).length = uSize r := by
  by_cases h : uSize r = 0
  · unfold uPut; rw [if_pos h, h]; rfl
  · rcases uSize_cases r h with ⟨_, h2⟩ | ⟨_, _, h2⟩ | ⟨_, _, h2⟩ | ⟨_, _, h2⟩ <;> (unfold uPut; rw [h2]; rfl)
theorem uPut_lt (r : Nat) : ∀ b ∈ uPut r, b < 256 := by
  by_cases h : uSize r = 0
  · unfold uPut; rw [if_pos h]; simp
  · rcases uSize_cases r h with ⟨_, h2⟩ | ⟨_, _, h2⟩ | ⟨_, _, h2⟩ | ⟨_, _, h2⟩ <;> (unfold uPut; rw [h2]; intro b hb; simp at hb; omega)
/-- Characters' bytes, one behind the other. -/
def uPuts (l : List Nat) : List UInt8 := (l.map fun r => (uPut r).map UInt8.ofNat).flatten
theorem uPuts_snoc (l : List Nat) (r : Nat) : uPuts (l ++ [r]) = uPuts l ++ (uPut r).map UInt8.ofNat := by simp [uPuts]
theorem uEnd_put (r : Nat) (h : uSize r ≠ 0) : uEnd ((uPut r).map UInt8.ofNat) = ((uPut r).map UInt8.ofNat).length := by
  have h1 := u1_put r h []
  rw [List.append_nil] at h1
  rw [uEnd_go _ (by rw [h1]; exact h), h1]
  have hl : ((uPut r).map UInt8.ofNat).length = uSize r := by rw [List.length_map, uPut_length]
  rw [show ((uPut r).map UInt8.ofNat).drop (r, uSize r).2 = [] from List.drop_eq_nil_of_le (by rw [hl]; exact Nat.le_refl _), hl]
  rfl
theorem uRunes_put (r k : Nat) (h : uSize r ≠ 0) : uRunes ((uPut r).map UInt8.ofNat) k = [(k, r)] := by
  have h1 := u1_put r h []
  rw [List.append_nil] at h1
  rw [uRunes_go _ _ (by rw [h1]; exact h), h1]
  have hl : ((uPut r).map UInt8.ofNat).length = uSize r := by rw [List.length_map, uPut_length]
  rw [show ((uPut r).map UInt8.ofNat).drop (r, uSize r).2 = [] from List.drop_eq_nil_of_le (by rw [hl]; exact Nat.le_refl _)]
  rfl
theorem uPuts_read : ∀ (l : List Nat) (k : Nat), (∀ r ∈ l, uSize r ≠ 0) → uEnd (uPuts l) = (uPuts l).length ∧ (uRunes (uPuts l) k).map (·.2) = l := by
  intro l
  induction l with
  | nil => intro k _; exact ⟨rfl, rfl⟩
  | cons r l ih =>
    intro k h
    have hr := h r (by simp)
    have e : uPuts (r :: l) = (uPut r).map UInt8.ofNat ++ uPuts l := by simp [uPuts]
    have he := uEnd_put r hr
    obtain ⟨h1, h2⟩ := ih (k + ((uPut r).map UInt8.ofNat).length) (fun x hx => h x (by simp [hx]))
    rw [e]
    constructor
    · rw [uEnd_app _ _ _ (Nat.le_refl _) he, h1, List.length_append]
    · rw [uRunes_app _ _ _ _ (Nat.le_refl _) he, uRunes_put r k hr]
      rw [List.map_append, h2]
      rfl
end Go.Proofs.YtkebjllehegjlaaGreatDoor
