/-
  Law 1: a number's digits are its text.
  Small laws: a func value and nil; a number that is handed back.
  NatDigits: rows of bytes; a text of nines.
-/
import Derived.Test.YtckglpkafhmehaaGreatDoorNCmp
import Derived.Test.YtckglpkafhmehaaGreatDoorNSmall
namespace Go.Proofs.YtckglpkafhmehaaGreatDoor
open Go.RowKit
set_option linter.unusedVariables false
theorem dv_one (b : UInt8) : dv [b] = b.toNat - 48 := by simp [dv]
theorem dv_cons (b : UInt8) (l : List UInt8) : dv (b :: l) = (b.toNat - 48) * 10 ^ l.length + dv l := by
  have := dv_append [b] l
  rw [dv_one] at this
  exact this
theorem dv_pos {l : List UInt8} (hd : ∀ b ∈ l, isDig b) (hne : l ≠ []) (h : l.head? ≠ some 48) : 0 < dv l := by
  obtain ⟨b, r, rfl⟩ : ∃ b r, l = b :: r := by
    cases l with
    | nil => exact absurd rfl hne
    | cons b r => exact ⟨b, r, rfl⟩
  have h1 := hd b (by simp)
  unfold isDig at h1
  have h2 : b.toNat ≠ 48 := fun e => h (by
    have : b = 48 := UInt8.toNat_inj.1 (by rw [e]; rfl)
    rw [this]; rfl)
  rw [dv_cons]
  have h3 : 0 < (b.toNat - 48) * 10 ^ r.length := Nat.mul_pos (by omega) (Nat.pow_pos (by omega))
  omega
theorem dec_dv : ∀ (n : Nat) (l : List UInt8), l.length = n → (∀ b ∈ l, isDig b) → l ≠ [] → (l.head? = some 48 → l.length = 1) → Lib.decDigits (dv l) = l := by
  intro n
  induction n with
  | zero => intro l hl _ hne; exact absurd (List.eq_nil_of_length_eq_zero hl) hne
  | succ n ih =>
    intro l hl hd hne hh
    rcases List.eq_nil_or_concat l with rfl | ⟨r, b, rfl⟩
    · exact absurd rfl hne
    · rw [List.concat_eq_append] at *
      have hb := hd b (by simp)
      unfold isDig at hb
      have eb : UInt8.ofNat (48 + (b.toNat - 48)) = b := by
        rw [show 48 + (b.toNat - 48) = b.toNat by omega]
        exact UInt8.ofNat_toNat
      by_cases hr : r = []
      · subst hr
        rw [List.nil_append, dv_one, Lib.decDigits_one (by omega), eb]
      · have hhr : (r ++ [b]).head? = r.head? := by
          cases r with
          | nil => exact absurd rfl hr
          | cons x y => rfl
        have hlr : 0 < r.length := List.length_pos_iff.2 hr
        have h48 : r.head? ≠ some 48 := fun e => by
          have := hh (hhr.trans e)
          rw [List.length_append, List.length_singleton] at this
          omega
        have hdr : ∀ x ∈ r, isDig x := fun x hx => hd x (List.mem_append_left _ hx)
        have hp := dv_pos hdr hr h48
        rw [dv_snoc, Lib.decDigits, dif_neg (by omega), show (dv r * 10 + (b.toNat - 48)) / 10 = dv r by omega, show (dv r * 10 + (b.toNat - 48)) % 10 = b.toNat - 48 by omega, eb,
          ih r (by rw [List.length_append, List.length_singleton] at hl; omega) hdr hr (fun e => absurd e h48)]
theorem WF.dec {s : ByteArray} (h : WF s) : Lib.decDigits (dv s.data.toList) = s.data.toList := by
  have hs : s.data.toList.length = s.size := by simp
  refine dec_dv _ _ rfl h.dig (fun e => ?_) (fun e => ?_)
  · have := h.ne; rw [e] at hs; simp at hs; omega
  · rcases Nat.lt_or_ge 1 s.size with h1 | h1
    · exact absurd ⟨e, h1⟩ h.lead
    · have := h.ne; omega
theorem WF.text {s : ByteArray} (h : WF s) : (⟨(Lib.decDigits (dv s.data.toList)).toArray⟩ : ByteArray) = s := by
  rw [h.dec]
theorem WF.digits {s : ByteArray} (h : WF s) : Lib.nDigits (dv s.data.toList) = s.size := by
  rw [← Lib.decDigits_length, h.dec]; simp
/-- A text of noughts ahead, or of a sign, is none. -/
theorem wf_zero (s t : ByteArray) (h : WF s) (ht : t.data.toList = 48 :: s.data.toList) : ¬ WF t := fun ht2 => ht2.lead ⟨by rw [ht]; rfl, by
  have h1 : t.data.toList.length = t.size := by simp
  have h2 : s.data.toList.length = s.size := by simp
  rw [ht, List.length_cons] at h1
  have := h.ne; omega⟩
theorem wf_sign (s t : ByteArray) (ht : t.data.toList = 45 :: s.data.toList) : ¬ WF t := fun h => by
  have := (h.dig 45 (by rw [ht]; simp)).1
  revert this; decide
theorem dv_nines : ∀ n : Nat, dv (List.replicate n 57) + 1 = 10 ^ n := by
  intro n
  induction n with
  | zero => decide
  | succ n ih =>
    rw [List.replicate_succ', dv_snoc, show (57 : UInt8).toNat - 48 = 9 by decide, Nat.pow_succ, ← ih]
    omega
theorem wf_nines {t : ByteArray} {n : Nat} (ht : t.data.toList = List.replicate n 57) (hn : 0 < n) : WF t := by
  have h1 : t.data.toList.length = t.size := by simp
  rw [ht, List.length_replicate] at h1
  refine ⟨by omega, fun h => ?_, fun b hb => ?_⟩
  · have h2 := h.1
    rw [ht] at h2
    obtain ⟨m, rfl⟩ : ∃ m, n = m + 1 := ⟨n - 1, by omega⟩
    rw [List.replicate_succ] at h2
    simp at h2
  · rw [ht] at hb
    have := (List.mem_replicate.1 hb).2
    subst this
    exact ⟨by decide, by decide⟩
theorem digits_ten (n : Nat) : Lib.nDigits (10 ^ n) = n + 1 := Lib.nDigits_unique n _ (Nat.le_refl _) (Nat.pow_lt_pow_right (by omega) (by omega))
end Go.Proofs.YtckglpkafhmehaaGreatDoor
namespace Go.Proofs.YtckglpkafhmehaaGreatDoor
open Go.RowKit
set_option linter.unusedVariables false
theorem run_equalIn_func_nil {P : Program} (d : Nat) (t : TypeId) (f : Fn) (xs ys : Array Value) (a b : Array TypeId) (c : Bool) (h : P.underlying t = some (.func a b c)) (w : World) : (Op.equalIn (d + 1) t (.func f xs ys) .nilFunc).run P w = .ok false w := by
  simp [Op.equalIn, run_underlying h]
def isFunc (x : Option TypeDesc) : Bool := match x with | some (.func ..) => true | _ => false
theorem run_eql_func_nil {P : Program} (t : TypeId) (f : Fn) (xs ys : Array Value) (h : isFunc (P.underlying t) = true) (w : World) : (binOp .eql t (.func f xs ys) .nilFunc).run P w = .ok (.bool false) w := by
  have ⟨a, b, c, h⟩ : ∃ a b c, P.underlying t = some (.func a b c) := by
    unfold isFunc at h
    split at h
    · exact ⟨_, _, _, by assumption⟩
    · cases h
  have e : (Op.equal t (.func f xs ys) .nilFunc).run P w = .ok false w := run_equalIn_func_nil 9999 t f xs ys a b c h w
  simp only [binOp]
  simp [e]
theorem IsN.drew {w : World} {v : Value} {N : Nat} (h : IsN w v N) : IsN w.drew v N := h
def GaveV (N : Nat) (w : World) (e : Ending) (w' : World) : Prop := ∃ x y z, e = .returned (.agg #[.slice x y z]) ∧ IsN w' (.agg #[.slice x y z]) N ∧ Below w.heap.size w w'
theorem gaveV {N : Nat} {w : World} {e : Ending} {w' : World} (h : GaveN N w e w') : GaveV N w e w' := by
  obtain ⟨v, rfl, h2, h3⟩ := h
  obtain ⟨x, y, z, rfl⟩ := isN_form h2
  exact ⟨x, y, z, rfl, h2, h3⟩
theorem lt_big (x k : Nat) (h : x < 18446744073709551616 ^ 2) (hk : 2 ≤ k) : x < 18446744073709551616 ^ k := Nat.lt_of_lt_of_le h (Nat.pow_le_pow_right (by decide) hk)
end Go.Proofs.YtckglpkafhmehaaGreatDoor
namespace Go.Proofs.YtckglpkafhmehaaGreatDoor
open Go.RowKit
set_option linter.unusedVariables false
theorem ten_pow {n k : Nat} (h : n ≤ 16 * k) : 10 ^ n ≤ 18446744073709551616 ^ k := by
  have h1 : 10 ^ n ≤ 16 ^ n := Nat.pow_le_pow_left (by decide) n
  have h2 : 16 ^ n ≤ 16 ^ (16 * k) := Nat.pow_le_pow_right (by decide) h
  rw [Nat.pow_mul] at h2
  exact Nat.le_trans h1 h2
theorem w64_mono {j k : Nat} (h : j ≤ k) : 18446744073709551616 ^ j ≤ 18446744073709551616 ^ k := Nat.pow_le_pow_right (by decide) h
/-- A sum, the greater number ahead. -/
theorem add_big (M N : Nat) (va vb : Value) (w : World) (ha : IsN w va M) (hb : IsN w vb N) (hM : M < 18446744073709551616 ^ 9000) (hN : N ≠ 0) (hNM : N < 18446744073709551616) (hM0 : M ≠ 0) :
    Calls Tryz.prog 36 #[va, vb] w (AddIs (M + N) w) := by
  obtain ⟨a1, c1, us, rfl, hc1, hu, hwu, rfl, hl1, _, _, hz1⟩ := isN_open 9000 ha hM
  obtain ⟨a2, c2, vs, rfl, hc2, hv, hwv, rfl, hl2, _, _, hz2⟩ := isN_open 1 hb (by rw [Nat.pow_one]; exact hNM)
  have hne : us ≠ [] := fun e => hM0 (by rw [e]; rfl)
  have hlu := List.length_pos_iff.2 hne
  obtain ⟨ad, rfl, _⟩ := hu 0 hlu
  exact add_long ad a2 c1 c2 us vs w hu hv hwu hwv hl1 hne (by omega)
end Go.Proofs.YtckglpkafhmehaaGreatDoor
