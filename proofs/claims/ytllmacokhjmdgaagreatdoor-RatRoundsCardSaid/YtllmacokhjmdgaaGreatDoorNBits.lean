/-
  Law 1: is it a small number; how many binary digits.
-/
import Derived.Test.YtllmacokhjmdgaaGreatDoorNMulA
import Derived.Test.YtllmacokhjmdgaaGreatDoorShelf
namespace Go.Proofs.YtllmacokhjmdgaaGreatDoor
open Go.RowKit
set_option linter.unusedVariables false
/-- A number of L binary digits. -/
structure IsLen (N L : Nat) : Prop where
  lt : N < 2 ^ L
  le : 0 < L → 2 ^ (L - 1) ≤ N
theorem IsLen.inj {N L M : Nat} (h : IsLen N L) (h' : IsLen N M) : L = M := by
  rcases Nat.lt_trichotomy L M with hlt | he | hgt
  · have h1 := h'.le (by omega)
    have h2 : 2 ^ L ≤ 2 ^ (M - 1) := Nat.pow_le_pow_right (by omega) (by omega)
    have := h.lt
    omega
  · exact he
  · have h1 := h.le (by omega)
    have h2 : 2 ^ M ≤ 2 ^ (L - 1) := Nat.pow_le_pow_right (by omega) (by omega)
    have := h'.lt
    omega
theorem isLen_half {x L : Nat} (h0 : x ≠ 0) (h : IsLen (x / 2) L) : IsLen x (1 + L) := by
  have h1 := h.lt
  refine ⟨?_, fun _ => ?_⟩
  · rw [Nat.add_comm, Nat.pow_succ]; omega
  · rw [Nat.add_sub_cancel_left]
    by_cases hL : L = 0
    · subst hL; simp; omega
    · have h2 := h.le (by omega)
      have h3 : 2 ^ L = 2 ^ (L - 1) * 2 := by rw [← Nat.pow_succ]; congr 1; omega
      omega
theorem isLen_bitLen : ∀ n x, x ≤ n → x < 2 ^ 64 → IsLen x (Lib.bitLen x) := by
  intro n
  induction n with
  | zero =>
    intro x hx _
    obtain rfl : x = 0 := by omega
    exact ⟨by decide, by decide⟩
  | succ n ih =>
    intro x hx hx64
    by_cases h0 : x = 0
    · exact ih x (by omega) hx64
    · rw [Lib.bitLen_half x h0 hx64]
      exact isLen_half h0 (ih (x / 2) (by omega) (by omega))
theorem wv_last {us : List Nat} (hne : us ≠ []) : wv us = wv (us.take (us.length - 1)) + 18446744073709551616 ^ (us.length - 1) * us.getD (us.length - 1) 0 := by
  have hl : 0 < us.length := List.length_pos_iff.2 hne
  have h := wv_take us (us.length - 1)
  rwa [show us.length - 1 + 1 = us.length by omega, List.take_length] at h
theorem isLen_words {us : List Nat} {L : Nat} (hw : Wrd us) (hne : us ≠ []) (hL : IsLen (us.getD (us.length - 1) 0) L) (h0 : us.getD (us.length - 1) 0 ≠ 0) : IsLen (wv us) ((us.length - 1) * 64 + L) := by
  have hl : 0 < us.length := List.length_pos_iff.2 hne
  have h1 := wv_last hne
  have h2 : wv (us.take (us.length - 1)) < 18446744073709551616 ^ (us.length - 1) := by
    have h3 := wv_lt (us := us.take (us.length - 1)) (fun u hu => hw u (List.mem_of_mem_take hu))
    rwa [List.length_take, Nat.min_eq_left (by omega)] at h3
  have e : 18446744073709551616 ^ (us.length - 1) = 2 ^ ((us.length - 1) * 64) := by
    rw [Nat.mul_comm, Nat.pow_mul]
  rw [e] at h1 h2
  generalize us.getD (us.length - 1) 0 = x at *
  generalize (us.length - 1) * 64 = q at *
  have hLp : 0 < L := by
    rcases Nat.eq_zero_or_pos L with h | h
    · subst h; have := hL.lt; simp at this; omega
    · exact h
  have hlt := hL.lt
  have hle := hL.le hLp
  refine ⟨?_, fun _ => ?_⟩
  · rw [h1, Nat.pow_add]
    have h3 : 2 ^ q * (x + 1) ≤ 2 ^ q * 2 ^ L := Nat.mul_le_mul_left _ (by omega)
    rw [Nat.mul_add] at h3
    omega
  · rw [h1, show q + L - 1 = q + (L - 1) by omega, Nat.pow_add]
    have h3 : 2 ^ q * 2 ^ (L - 1) ≤ 2 ^ q * x := Nat.mul_le_mul_left _ hle
    omega
def BitsIs (N : Nat) (w : World) (e : Ending) (w' : World) : Prop := ∃ L : Nat, e = .returned (.int .i64 (L : Int)) ∧ IsLen N L ∧ L ≤ 1000000 ∧ Below w.heap.size w w'
set_option maxRecDepth 100000 in
set_option maxHeartbeats 2000000 in
theorem bits_any (N : Nat) (v : Value) (w : World) (h : IsN w v N) : Calls Tryz.prog 110 #[v] w (BitsIs N w) := by
  obtain ⟨a, c, us, rfl, hc, hu, hw, rfl, hl, hlast, hnil⟩ := h
  obtain ⟨W1, hW1⟩ : ∃ W1, w.alloc (.cells #[.slice a us.length c] 26) = W1 := ⟨_, rfl⟩
  have hk : Blk W1 w.heap.size 26 #[.slice a us.length c] := by rw [← hW1]; exact Blk.new w _ _
  have hb : Below w.heap.size w W1 := by rw [← hW1]; exact (Below.refl _ _).alloc (Nat.le_refl _) _
  have hk0 := hk.cell 0
  simp only [List.getElem?_toArray, List.getElem?_cons_zero] at hk0
  by_cases hne : us = []
  · subst hne
    obtain ⟨rfl, rfl⟩ := hnil rfl
    have HR : Hid (BitsIs (wv []) w (.returned (.int .i64 0)) W1) := Lib.hid ⟨0, rfl, ⟨by simp [wv], fun h => absurd h (by decide)⟩, by omega, hb⟩
    have hw0 : IntKind.i64.wrap ((0 : Int) - 1) = -1 := by decide
    simp only [List.length_nil] at hk0 hW1 ⊢
    clear hk hb hu hw hl hlast hnil hc
    go_enter Tryz.func110, Tryz.ntmps110
    go_wp2_with fail
    go_ret
    exact HR.out
  · have hl0 : 0 < us.length := List.length_pos_iff.2 hne
    obtain ⟨ad, rfl, hadl, hcu⟩ := hu (us.length - 1) (by omega)
    have hcu1 := (hb.cell (by rw [add_block]; exact hadl)).trans hcu
    obtain ⟨x, hx⟩ : ∃ x, us.getD (us.length - 1) 0 = x := ⟨_, rfl⟩
    have hxw : x < 18446744073709551616 := by rw [← hx]; exact getW hw _
    have hx0 := hlast hne
    have hL := isLen_bitLen x x (Nat.le_refl _) hxw
    rw [← hx] at hL
    have hlen := isLen_words hw hne hL hx0
    rw [hx] at hlen hcu1
    have hbl : Lib.bitLen x ≤ 64 := by
      rcases Nat.lt_or_ge 64 (Lib.bitLen x) with hgt | hle
      · exfalso
        rw [hx] at hL
        have h1 := hL.le (by omega)
        have h2 : 2 ^ 64 ≤ 2 ^ (Lib.bitLen x - 1) := Nat.pow_le_pow_right (by omega) (by omega)
        omega
      · exact hle
    obtain ⟨X, hX⟩ : ∃ X : Int, (x : Int) = X := ⟨_, rfl⟩
    obtain ⟨b, hbb⟩ : ∃ b, Lib.bitLen x = b := ⟨_, rfl⟩
    obtain ⟨n, hn⟩ : ∃ n, us.length = n := ⟨_, rfl⟩
    obtain ⟨r, hr⟩ : ∃ r, n - 1 = r := ⟨_, rfl⟩
    have HL : Hid (Calls Tryz.prog 119 #[.int .u64 X] W1 fun e w' => e = .returned (.int .i64 (b : Int)) ∧ w' = W1) := Lib.hid (by
      have := Tryz.bits_Len64 X W1 (by omega) (by omega)
      rw [← hX, Int.toNat_natCast, hbb, hX] at this
      exact this)
    rw [hn, hr, hbb] at hlen
    rw [hn, hr, hX] at hcu1
    rw [hn] at hk0 hW1 hl hl0 ⊢
    rw [hbb] at hbl
    have hs1 : ((n : Int) - 1) = (r : Int) := by omega
    have hs2 : (r : Int) * 64 + (b : Int) = ((r * 64 + b : Nat) : Int) := by omega
    have hr0 : ¬ (r : Int) < 0 := by omega
    have hr1 : (0 : Int) ≤ (r : Int) := by omega
    have hr2 : (r : Int) < (n : Int) := by omega
    have hr3 : (r : Int) ≤ 10000 := by omega
    have hb64 : (b : Int) ≤ 64 := by omega
    have hb0 : (0 : Int) ≤ (b : Int) := by omega
    have HR : Hid (BitsIs (wv us) w (.returned (.int .i64 ((r * 64 + b : Nat) : Int))) W1) := Lib.hid ⟨_, rfl, hlen, by omega, hb⟩
    rw [← hs2] at HR
    have e1 : IntKind.i64.wrap ((n : Int) - 1) = (r : Int) := by rw [hs1]; exact IntWalk.i64_in _ ⟨by omega, by omega⟩
    clear hk hb hu hw hl hlast hnil hc hne hlen hL hx hx0 hxw hX hbb hn hr hcu hadl hbl hl0 hs2
    go_enter Tryz.func110, Tryz.ntmps110
    go_wp2_with fail
    refine HL.out.mono ?_
    rintro e w2 ⟨rfl, rfl⟩
    clear HL
    go_wp2_with fail
    go_ret
    exact HR.out
/-- A small number, or none. -/
def SmallIs (N : Nat) (w : World) (e : Ending) (w' : World) : Prop := (N < 18446744073709551616 ∧ e = .returned (.tuple #[.int .u64 (N : Int), .bool true]) ∨ 18446744073709551616 ≤ N ∧ e = .returned (.tuple #[.int .u64 0, .bool false])) ∧ Below w.heap.size w w'
set_option maxRecDepth 100000 in
set_option maxHeartbeats 2000000 in
theorem small_any (N : Nat) (v : Value) (w : World) (h : IsN w v N) : Calls Tryz.prog 94 #[v] w (SmallIs N w) := by
  obtain ⟨a, c, us, rfl, hc, hu, hw, rfl, hl, hlast, hnil⟩ := h
  obtain ⟨W1, hW1⟩ : ∃ W1, w.alloc (.cells #[.slice a us.length c] 26) = W1 := ⟨_, rfl⟩
  have hk : Blk W1 w.heap.size 26 #[.slice a us.length c] := by rw [← hW1]; exact Blk.new w _ _
  have hb : Below w.heap.size w W1 := by rw [← hW1]; exact (Below.refl _ _).alloc (Nat.le_refl _) _
  have hk0 := hk.cell 0
  simp only [List.getElem?_toArray, List.getElem?_cons_zero] at hk0
  rcases us with _ | ⟨x, us⟩
  · obtain ⟨rfl, rfl⟩ := hnil rfl
    have HR : Hid (SmallIs (wv []) w (.returned (.tuple #[.int .u64 0, .bool true])) W1) := Lib.hid ⟨.inl ⟨by simp [wv], rfl⟩, hb⟩
    simp only [List.length_nil] at hk0 hW1 ⊢
    clear hk hb hu hw hl hlast hnil hc
    go_enter Tryz.func94, Tryz.ntmps94
    go_wp2_with fail
    go_ret2
    exact HR.out
  · rcases us with _ | ⟨y, us⟩
    · obtain ⟨ad, rfl, hadl, hcu⟩ := hu 0 (by simp)
      have hcu1 := (hb.cell (by rw [add_block]; exact hadl)).trans hcu
      have hx := hw x (List.mem_cons_self)
      have HR : Hid (SmallIs (wv [x]) w (.returned (.tuple #[.int .u64 (x : Int), .bool true])) W1) := Lib.hid ⟨.inl ⟨by simp [wv]; exact hx, by simp [wv]⟩, hb⟩
      have ead : ad.add 0 = ad := rfl
      rw [ead] at hcu1
      simp only [List.getD_cons_zero] at hcu1
      obtain ⟨X, hX⟩ : ∃ X : Int, (x : Int) = X := ⟨_, rfl⟩
      rw [hX] at hcu1 HR
      simp only [List.length_cons, List.length_nil, Nat.zero_add] at hk0 hW1 ⊢
      clear hk hb hu hw hl hlast hnil hc hcu hadl hx hX
      go_enter Tryz.func94, Tryz.ntmps94
      go_wp2_with fail
      go_ret2
      exact HR.out
    · obtain ⟨n, hn⟩ : ∃ n, (x :: y :: us).length = n := ⟨_, rfl⟩
      have hn2 : 2 ≤ n := by rw [← hn]; simp
      have hbig : 18446744073709551616 ≤ wv (x :: y :: us) := by
        have hne : (x :: y :: us) ≠ [] := by simp
        have h1 := wv_last hne
        have h0 := hlast hne
        have hp : 18446744073709551616 ^ 1 ≤ 18446744073709551616 ^ ((x :: y :: us).length - 1) := Nat.pow_le_pow_right (by omega) (by rw [hn]; omega)
        generalize (x :: y :: us).getD ((x :: y :: us).length - 1) 0 = z at *
        generalize 18446744073709551616 ^ ((x :: y :: us).length - 1) = p at *
        have : p * 1 ≤ p * z := Nat.mul_le_mul_left _ (by omega)
        omega
      have HR : Hid (SmallIs (wv (x :: y :: us)) w (.returned (.tuple #[.int .u64 0, .bool false])) W1) := Lib.hid ⟨.inr ⟨hbig, rfl⟩, hb⟩
      have hi0 : ((n : Int) == 0) = false := by simp; omega
      have hi1 : ((n : Int) == 1) = false := by simp; omega
      rw [hn] at hk0 hW1 ⊢
      clear hk hb hu hw hl hlast hnil hc hbig hn
      go_enter Tryz.func94, Tryz.ntmps94
      go_wp2_with fail
      go_ret2
      exact HR.out
end Go.Proofs.YtllmacokhjmdgaaGreatDoor
