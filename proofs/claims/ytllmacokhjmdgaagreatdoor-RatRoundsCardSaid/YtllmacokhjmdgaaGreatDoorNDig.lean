/-
  Law 1: a number's digits are its text.
-/
import Derived.Test.YtllmacokhjmdgaaGreatDoorNHlv
import Derived.Test.YtllmacokhjmdgaaGreatDoorNSmall
namespace Go.Proofs.YtllmacokhjmdgaaGreatDoor
open Go.RowKit
set_option linter.unusedVariables false
theorem dv_one (b : UInt8) : dv [b] = b.toNat - 48 := by simp [dv]
theorem dv_cons (b : UInt8) (l : List UInt8) : dv (b :: l) = (b.toNat - 48) * 10 ^ l.length + dv l := by
  have := dv_append [b] l
  rw [dv_one] at this
  exact this
theorem dv_pos {l : List UInt8} (hd : ∀ b ∈ l, isDig b) (hne : l ≠ []) (h : l.head? ≠ some 48) : 0 < dv l := by
  obtain ⟨b, r, rfl⟩ : ∃ b r, l = b :: r := by
    cases l with
    | nil => exact absurd rfl hne
    | cons b r => exact ⟨b, r, rfl⟩
  have h1 := hd b (by simp)
  unfold isDig at h1
  have h2 : b.toNat ≠ 48 := fun e => h (by
    have : b = 48 := UInt8.toNat_inj.1 (by rw [e]; rfl)
    rw [this]; rfl)
  rw [dv_cons]
  have h3 : 0 < (b.toNat - 48) * 10 ^ r.length := Nat.mul_pos (by omega) (Nat.pow_pos (by omega))
  omega
theorem dec_dv : ∀ (n : Nat) (l : List UInt8), l.length = n → (∀ b ∈ l, isDig b) → l ≠ [] → (l.head? = some 48 → l.length = 1) → Lib.decDigits (dv l) = l := by
  intro n
  induction n with
  | zero => intro l hl _ hne; exact absurd (List.eq_nil_of_length_eq_zero hl) hne
  | succ n ih =>
    intro l hl hd hne hh
    rcases List.eq_nil_or_concat l with rfl | ⟨r, b, rfl⟩
    · exact absurd rfl hne
    · rw [List.concat_eq_append] at *
      have hb := hd b (by simp)
      unfold isDig at hb
      have eb : UInt8.ofNat (48 + (b.toNat - 48)) = b := by
        rw [show 48 + (b.toNat - 48) = b.toNat by omega]
        exact UInt8.ofNat_toNat
      by_cases hr : r = []
      · subst hr
        rw [List.nil_append, dv_one, Lib.decDigits_one (by omega), eb]
      · have hhr : (r ++ [b]).head? = r.head? := by
          cases r with
          | nil => exact absurd rfl hr
          | cons x y => rfl
        have hlr : 0 < r.length := List.length_pos_iff.2 hr
        have h48 : r.head? ≠ some 48 := fun e => by
          have := hh (hhr.trans e)
          rw [List.length_append, List.length_singleton] at this
          omega
        have hdr : ∀ x ∈ r, isDig x := fun x hx => hd x (List.mem_append_left _ hx)
        have hp := dv_pos hdr hr h48
        rw [dv_snoc, Lib.decDigits, dif_neg (by omega), show (dv r * 10 + (b.toNat - 48)) / 10 = dv r by omega, show (dv r * 10 + (b.toNat - 48)) % 10 = b.toNat - 48 by omega, eb,
          ih r (by rw [List.length_append, List.length_singleton] at hl; omega) hdr hr (fun e => absurd e h48)]
theorem WF.dec {s : ByteArray} (h : WF s) : Lib.decDigits (dv s.data.toList) = s.data.toList := by
  have hs : s.data.toList.length = s.size := by simp
  refine dec_dv _ _ rfl h.dig (fun e => ?_) (fun e => ?_)
  · have := h.ne; rw [e] at hs; simp at hs; omega
  · rcases Nat.lt_or_ge 1 s.size with h1 | h1
    · exact absurd ⟨e, h1⟩ h.lead
    · have := h.ne; omega
theorem WF.text {s : ByteArray} (h : WF s) : (⟨(Lib.decDigits (dv s.data.toList)).toArray⟩ : ByteArray) = s := by
  rw [h.dec]
theorem WF.digits {s : ByteArray} (h : WF s) : Lib.nDigits (dv s.data.toList) = s.size := by
  rw [← Lib.decDigits_length, h.dec]; simp
/-- A text of noughts ahead, or of a sign, is none. -/
theorem wf_zero (s t : ByteArray) (h : WF s) (ht : t.data.toList = 48 :: s.data.toList) : ¬ WF t := fun ht2 => ht2.lead ⟨by rw [ht]; rfl, by
  have h1 : t.data.toList.length = t.size := by simp
  have h2 : s.data.toList.length = s.size := by simp
  rw [ht, List.length_cons] at h1
  have := h.ne; omega⟩
theorem wf_sign (s t : ByteArray) (ht : t.data.toList = 45 :: s.data.toList) : ¬ WF t := fun h => by
  have := (h.dig 45 (by rw [ht]; simp)).1
  revert this; decide
theorem dv_nines : ∀ n : Nat, dv (List.replicate n 57) + 1 = 10 ^ n := by
  intro n
  induction n with
  | zero => decide
  | succ n ih =>
    rw [List.replicate_succ', dv_snoc, show (57 : UInt8).toNat - 48 = 9 by decide, Nat.pow_succ, ← ih]
    omega
theorem wf_nines {t : ByteArray} {n : Nat} (ht : t.data.toList = List.replicate n 57) (hn : 0 < n) : WF t := by
  have h1 : t.data.toList.length = t.size := by simp
  rw [ht, List.length_replicate] at h1
  refine ⟨by omega, fun h => ?_, fun b hb => ?_⟩
  · have h2 := h.1
    rw [ht] at h2
    obtain ⟨m, rfl⟩ : ∃ m, n = m + 1 := ⟨n - 1, by omega⟩
    rw [List.replicate_succ] at h2
    simp at h2
  · rw [ht] at hb
    have := (List.mem_replicate.1 hb).2
    subst this
    exact ⟨by decide, by decide⟩
theorem digits_ten (n : Nat) : Lib.nDigits (10 ^ n) = n + 1 := Lib.nDigits_unique n _ (Nat.le_refl _) (Nat.pow_lt_pow_right (by omega) (by omega))
end Go.Proofs.YtllmacokhjmdgaaGreatDoor
