/-
 Law 3: the number of a literal (mathematics).
-/
import Derived.Test.YtggmnmmjmihnfaaGreatDoorDLit
import Derived.Test.YtggmnmmjmihnfaaGreatDoorQPp
import Derived.Lib.TrimByte
namespace Go.Proofs.YtggmnmmjmihnfaaGreatDoor
set_option linter.unusedVariables false
/-- Digits without the noughts ahead. -/
abbrev tz (l : List UInt8) : List UInt8 := Lib.trimLeftB l 48
theorem dv_nought (l : List UInt8) : dv (48 :: l) = dv l := rfl
theorem tz_cons (l : List UInt8) : tz (48 :: l) = tz l := rfl
theorem tz_stop {b : UInt8} (l : List UInt8) (h : b ≠ 48) : tz (b :: l) = b :: l := by
 show (b :: l).dropWhile (· == 48) = b :: l
 have : (b == 48) = false := by simpa using h
 simp [List.dropWhile, this]
theorem tz_facts : ∀ l : List UInt8, (∀ b ∈ l, isDig b) → dv (tz l) = dv l ∧ (∀ b ∈ tz l, isDig b) ∧ (tz l).length ≤ l.length ∧ (tz l).head? ≠ some 48 := by
 intro l
 induction l with
 | nil => intro _; exact ⟨rfl, fun b h => absurd h (by simp [tz, Lib.trimLeftB]), Nat.le_refl _, by simp [tz, Lib.trimLeftB]⟩
 | cons b r ih =>
  intro h
  by_cases hb : b = 48
  · subst hb
    obtain ⟨h1, h2, h3, h4⟩ := ih (fun x hx => h x (List.mem_cons_of_mem _ hx))
    rw [tz_cons]
    exact ⟨by rw [dv_nought]; exact h1, h2, by simp; omega, h4⟩
  · rw [tz_stop r hb]
    exact ⟨rfl, h, Nat.le_refl _, by simpa using hb⟩
/-- A number whose first digit is none has as many digits as stand there. -/
theorem dv_ge : ∀ (n : Nat) (l : List UInt8), l.length = n + 1 → (∀ b ∈ l, isDig b) → l.head? ≠ some 48 → 10 ^ n ≤ dv l := by
 intro n
 induction n with
 | zero =>
  intro l hl hd hh
  match l, hl with
  | [b], _ =>
   have h1 := hd b (by simp)
   have h2 : b ≠ 48 := fun e => hh (by rw [e]; rfl)
   have h3 : b.toNat ≠ 48 := fun e => h2 (UInt8.toNat_inj.1 (by rw [e]; rfl))
   unfold isDig at h1
   show 1 ≤ 0 * 10 + (b.toNat - 48)
   omega
 | succ n ih =>
  intro l hl hd hh
  rcases List.eq_nil_or_concat l with rfl | ⟨r, b, rfl⟩
  · simp at hl
  · rw [List.concat_eq_append] at *
    have hr : r.length = n + 1 := by simp at hl; omega
    have hh' : r.head? ≠ some 48 := fun e => hh (by
     match r, hr with
     | x :: r', _ => simpa using e)
    have h1 := ih r hr (fun x hx => hd x (List.mem_append_left _ hx)) hh'
    rw [dv_snoc, Nat.pow_succ]
    omega
/-- All that was gathered are digits. -/
structure LD (s : LS) : Prop where
 ds : ∀ b ∈ s.ds, isDig b
 es : ∀ b ∈ s.es, isDig b
theorem lstep_d {k : Nat} {p b : UInt8} {s s' : LS} (h : LD s) (e : lstep k p s b = some s') : LD s' := by
 unfold lstep at e
 split at e
 · rename_i hb
   split at e
   · injection e with e; subst e
     exact ⟨h.ds, fun x hx => by rcases List.mem_append.1 hx with h1 | h1; exact h.es x h1; simp at h1; subst h1; exact hb⟩
   · injection e with e; subst e
     exact ⟨fun x hx => by rcases List.mem_append.1 hx with h1 | h1; exact h.ds x h1; simp at h1; subst h1; exact hb, h.es⟩
 · split at e
   · injection e with e; subst e; exact ⟨h.ds, h.es⟩
   · split at e
     · injection e with e; subst e; exact ⟨h.ds, h.es⟩
     · split at e
       · injection e with e; subst e; exact ⟨h.ds, h.es⟩
       · split at e
         · injection e with e; subst e; exact ⟨h.ds, h.es⟩
         · cases e
theorem lrun_k : ∀ (l : List UInt8) (k : Nat) (p : UInt8) (s : LS), LK k s → LD s → ∃ m, m ≤ k + l.length ∧ LK m (lrun k p s l).1 ∧ LD (lrun k p s l).1 := by
 intro l
 induction l with
 | nil => intro k p s h h2; exact ⟨k, by simp, by unfold lrun; exact h, by unfold lrun; exact h2⟩
 | cons b r ih =>
  intro k p s h h2
  cases e : lstep k p s b with
  | none => rw [lrun_stop e]; exact ⟨k, by simp, h, h2⟩
  | some s' =>
   rw [lrun_go e]
   obtain ⟨m, h3, h4⟩ := ih (k + 1) b s' (lstep_k h e) (lstep_d h2 e)
   exact ⟨m, by simp; omega, h4⟩
theorem lcut_k (s : ByteArray) : (lcut s).1.ds.length ≤ s.size ∧ (lcut s).1.es.length ≤ s.size ∧ (lcut s).1.pl ≤ (lcut s).1.ds.length ∧ LD (lcut s).1 := by
 obtain ⟨m, h1, h2, h3⟩ := lrun_k s.data.toList 0 0 lzero lk_zero ⟨fun b h => absurd h (by simp [lzero]), fun b h => absurd h (by simp [lzero])⟩
 have h4 : s.data.toList.length = s.size := by simp
 rw [h4] at h1
 exact ⟨by have := h2.ds; show (lrun 0 0 lzero s.data.toList).1.ds.length ≤ _; omega, by have := h2.es; show (lrun 0 0 lzero s.data.toList).1.es.length ≤ _; omega, h2.pl, h3⟩
/-- The exponent of a literal, less the digits behind its point. -/
def lexp (r : LS) : Int := sgn r.low (dv r.es) - (r.pl : Int)
/-- The number of what was read. -/
def litQ (r : LS) : Rat := if 0 ≤ lexp r then mkRat (sgn r.neg (dv r.ds * 10 ^ (lexp r).toNat)) 1 else mkRat (sgn r.neg (dv r.ds)) (10 ^ (-lexp r).toNat)
/-- Why a text is none. -/
def lcode (s : ByteArray) : Int := if lok (lcut s) = true then (if dv (lcut s).1.es ≤ 400 then 0 else 2) else 3
def litv (s : ByteArray) : Rat := if lcode s = 0 then litQ (lcut s).1 else 0
/-- The number of digits, as nat reads it. -/
theorem nn_tz {l : List UInt8} (h : ∀ b ∈ l, isDig b) : nn (bz (tz l)) = dv l := by
 obtain ⟨h1, h2, h3, h4⟩ := tz_facts l h
 rw [← h1]
 have hd : (bz (tz l)).data.toList = tz l := by unfold bz; simp
 unfold nn
 by_cases h0 : tz l = []
 · rw [if_neg (fun hw => by have := hw.ne; rw [bz_size, h0] at this; simp at this), h0]
   rfl
 · rw [if_pos ⟨by rw [bz_size]; exact List.length_pos_iff.2 h0, fun e => h4 (by rw [← hd]; exact e.1), by rw [hd]; exact h2⟩, hd]
end Go.Proofs.YtggmnmmjmihnfaaGreatDoor
