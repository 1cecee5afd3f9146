/-
 Law 3: how a literal is cut up, byte by byte (mathematics).
-/
import Derived.Test.YtggmnmmjmihnfaaGreatDoorQC
namespace Go.Proofs.YtggmnmmjmihnfaaGreatDoor
set_option linter.unusedVariables false
/-- What was read of a literal. -/
structure LS where
 part : Nat
 ds : List UInt8
 es : List UInt8
 pl : Nat
 neg : Bool
 low : Bool
def lstep (i : Nat) (prev : UInt8) (s : LS) (b : UInt8) : Option LS :=
 if 48 ≤ b.toNat ∧ b.toNat ≤ 57 then (if s.part = 2 then some { s with es := s.es ++ [b] } else some { s with ds := s.ds ++ [b], pl := s.pl + s.part })
 else if b.toNat = 46 ∧ s.part = 0 then some { s with part := 1 }
 else if (b.toNat = 101 ∨ b.toNat = 69) ∧ s.part ≠ 2 then some { s with part := 2 }
 else if (b.toNat = 43 ∨ b.toNat = 45) ∧ i = 0 then some { s with neg := decide (b.toNat = 45) }
 else if (b.toNat = 43 ∨ b.toNat = 45) ∧ s.part = 2 ∧ (prev.toNat = 101 ∨ prev.toNat = 69) then some { s with low := decide (b.toNat = 45) }
 else none
/-- From byte i on, behind the byte prev. -/
def lrun : Nat → UInt8 → LS → List UInt8 → LS × Bool
 | _, _, s, [] => (s, true)
 | i, p, s, b :: r => match lstep i p s b with
  | some s' => lrun (i + 1) b s' r
  | none => (s, false)
def lzero : LS := ⟨0, [], [], 0, false, false⟩
def lcut (s : ByteArray) : LS × Bool := lrun 0 0 lzero s.data.toList
/-- Is it a literal? -/
def lok (r : LS × Bool) : Bool := r.2 && (!r.1.ds.isEmpty && (!r.1.es.isEmpty || r.1.part != 2))
theorem lrun_go {i : Nat} {p b : UInt8} {s s' : LS} {r : List UInt8} (h : lstep i p s b = some s') : lrun i p s (b :: r) = lrun (i + 1) b s' r := by
 conv => lhs; unfold lrun
 rw [h]
theorem lrun_stop {i : Nat} {p b : UInt8} {s : LS} {r : List UInt8} (h : lstep i p s b = none) : lrun i p s (b :: r) = (s, false) := by
 conv => lhs; unfold lrun
 rw [h]
/-- What is known of what was read of k bytes. -/
structure LK (k : Nat) (s : LS) : Prop where
 part : s.part ≤ 2
 ds : s.ds.length ≤ k
 es : s.es.length ≤ k
 pl : s.pl ≤ s.ds.length
 pos : s.part ≠ 0 → 0 < k
 none : s.part ≠ 2 → s.es = []
theorem lstep_k {k : Nat} {p b : UInt8} {s s' : LS} (h : LK k s) (e : lstep k p s b = some s') : LK (k + 1) s' := by
 obtain ⟨h1, h2, h3, h4, h5, h6⟩ := h
 unfold lstep at e
 split at e
 · split at e
   · rename_i hp
     injection e with e; subst e
     exact ⟨h1, by show s.ds.length ≤ k + 1; omega, by show (s.es ++ [b]).length ≤ k + 1; simp; omega, h4, fun _ => by omega, fun h => absurd hp h⟩
   · rename_i hp
     injection e with e; subst e
     exact ⟨h1, by show (s.ds ++ [b]).length ≤ k + 1; simp; omega, by show s.es.length ≤ k + 1; omega, by show s.pl + s.part ≤ (s.ds ++ [b]).length; simp; omega, fun _ => by omega, h6⟩
 · split at e
   · rename_i hp
     injection e with e; subst e
     exact ⟨by show 1 ≤ 2; omega, by show s.ds.length ≤ k + 1; omega, by show s.es.length ≤ k + 1; omega, h4, fun _ => by omega, fun _ => h6 (by omega)⟩
   · split at e
     · injection e with e; subst e
       exact ⟨Nat.le_refl _, by show s.ds.length ≤ k + 1; omega, by show s.es.length ≤ k + 1; omega, h4, fun _ => by omega, fun h => absurd rfl h⟩
     · split at e
       · injection e with e; subst e
         exact ⟨h1, by show s.ds.length ≤ k + 1; omega, by show s.es.length ≤ k + 1; omega, h4, fun _ => by omega, h6⟩
       · split at e
         · injection e with e; subst e
           exact ⟨h1, by show s.ds.length ≤ k + 1; omega, by show s.es.length ≤ k + 1; omega, h4, fun _ => by omega, h6⟩
         · cases e
theorem lk_zero : LK 0 lzero := ⟨by decide, by decide, by decide, by decide, fun h => absurd rfl h, fun _ => rfl⟩
/-- Bytes are put behind bytes. -/
def bz (l : List UInt8) : ByteArray := ⟨l.toArray⟩
theorem bz_size (l : List UInt8) : (bz l).size = l.length := by unfold bz; show l.toArray.size = l.length; simp
theorem bz_push (l : List UInt8) (b : UInt8) : (bz l).push b = bz (l ++ [b]) := by
 unfold bz
 show ByteArray.mk (l.toArray.push b) = _
 congr 1
 simp
theorem bz_nil : bz [] = ⟨#[]⟩ := rfl
end Go.Proofs.YtggmnmmjmihnfaaGreatDoor
