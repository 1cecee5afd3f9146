/-
 Laws 3 and 4: a fraction out of its numbers (rat.Make); boxes of fractions that a drawn region makes.
-/
import Derived.Test.YtggmnmmjmihnfaaGreatDoorQG
import Derived.Test.YtggmnmmjmihnfaaGreatDoorRQm
namespace Go.Proofs.YtggmnmmjmihnfaaGreatDoor
open Go.RowKit
set_option linter.unusedVariables false
/-- The value v is a fraction and 'no error'. -/
def Rp (W : World) (v : Value) (x : Rat) : Prop := ∃ u, v = .tuple #[u, .int .i64 0] ∧ IsR W u x
theorem Rp.below {W W' : World} {v : Value} {x : Rat} (h : Rp W v x) (hb : Below W.heap.size W W') : Rp W' v x := by
 obtain ⟨u, h1, h2⟩ := h
 exact ⟨u, h1, h2.below hb (Nat.le_refl _)⟩
theorem make_mk (z : Bool) (N D : Nat) (va vb : Value) (w : World) (ha : IsN w va N) (hb : IsN w vb D) (hN : N < 18446744073709551616 ^ 40) (hD : D < 18446744073709551616 ^ 40) (hD0 : 0 < D) (htb : TabB w) :
 Calls Tryz.prog 16 #[.bool z, va, vb] w fun e w' => ∃ v, e = .returned (.tuple #[v, .int .i64 0]) ∧ IsR w' v (mkRat (sgn z N) D) ∧ Below w.heap.size w w' := by
 obtain ⟨p1, p2, p3⟩ := norm_parts (sgn z N) D (by omega)
 rw [sgn_abs] at p1 p2 p3
 exact make_any _ z N D va vb w ha hb hN hD hD0 htb ⟨p1, p2, fun h => by
  have hn0 : N ≠ 0 := fun e => h (by rw [e, Nat.zero_div])
  rw [p3 hn0]
  exact sgn_neg (fun e => absurd e hn0)⟩
/-- The value v points to a new box of a fraction. -/
def Rn (W0 W : World) (v : Value) : Prop := ∃ b, v = .pointer (some ⟨b, 0, none⟩) ∧ Blk W b 27 #[.bool false, .slice none 0 0, .slice none 0 0] ∧ W0.heap.size ≤ b
theorem Rn.below {W0 W W' : World} {v : Value} (h : Rn W0 W v) (hb : Below W.heap.size W W') : Rn W0 W' v := by
 obtain ⟨b, h1, h2, h3⟩ := h
 exact ⟨b, h1, h2.below hb h2.lt, h3⟩
/-- The value v points to a new box that holds the fraction x. -/
def Rs (W0 W : World) (v : Value) (x : Rat) : Prop := ∃ b z p n c p' n' c', v = .pointer (some ⟨b, 0, none⟩) ∧ Blk W b 27 #[.bool z, .slice p n c, .slice p' n' c'] ∧ IsR W (.agg #[.bool z, .slice p n c, .slice p' n' c']) x ∧ W0.heap.size ≤ b
theorem Rs.below {W0 W W' : World} {v : Value} {x : Rat} (h : Rs W0 W v x) (hb : Below W.heap.size W W') : Rs W0 W' v x := by
 obtain ⟨b, z, p, n, c, p', n', c', h1, h2, h3, h4⟩ := h
 exact ⟨b, z, p, n, c, p', n', c', h1, h2.below hb h2.lt, h3.below hb (Nat.le_refl _), h4⟩
theorem isR_s3 {W : World} {v : Value} {x : Rat} {b : Nat} {z : Bool} {p : Option Addr} {n c : Nat} {p' : Option Addr} {n' c' : Nat} (h : IsR W v x) (hk : Blk W b 27 #[.bool z, .slice p n c, .slice p' n' c']) (y0 y1 y2 : Value) : IsR (set3 W b y0 y1 y2) v x := by
 obtain ⟨p1, n1, c1, p2, n2, c2, rfl, h1, h2⟩ := h
 exact ⟨p1, n1, c1, p2, n2, c2, rfl, isN_box3 h1 hk _ _ _, isN_box3 h2 hk _ _ _⟩
theorem Nm.s3 {W : World} {v : Value} {N b : Nat} {z : Bool} {p : Option Addr} {n c : Nat} {p' : Option Addr} {n' c' : Nat} {y0 y1 y2 : Value} (h : Nm W v N) (hk : Blk W b 27 #[.bool z, .slice p n c, .slice p' n' c']) : Nm (set3 W b y0 y1 y2) v N := ⟨h.1, isN_box3 h.2 hk _ _ _⟩
theorem Rp.s3 {W : World} {v : Value} {x : Rat} {b : Nat} {z : Bool} {p : Option Addr} {n c : Nat} {p' : Option Addr} {n' c' : Nat} {y0 y1 y2 : Value} (h : Rp W v x) (hk : Blk W b 27 #[.bool z, .slice p n c, .slice p' n' c']) : Rp (set3 W b y0 y1 y2) v x := by
 obtain ⟨u, h1, h2⟩ := h
 exact ⟨u, h1, isR_s3 h2 hk _ _ _⟩
end Go.Proofs.YtggmnmmjmihnfaaGreatDoor
