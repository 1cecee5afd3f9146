/-
  Law 1: a number and its halves; blocks that lie apart from what a loop's body writes.
-/
import Derived.Test.YtllmacokhjmdgaaGreatDoorNShN
import Derived.RangeFuncBox
import Derived.RangeFuncNested
namespace Go.Proofs.YtllmacokhjmdgaaGreatDoor
open Go.RowKit Go.Shelf
set_option linter.unusedVariables false
/-- A number, its half, and so on. -/
def hlv : Nat → List Nat
  | 0 => []
  | n + 1 => (n + 1) :: hlv ((n + 1) / 2)
termination_by n => n
decreasing_by omega
theorem hlv_pos {M : Nat} (h : M ≠ 0) : hlv M = M :: hlv (M / 2) := by
  obtain ⟨m, rfl⟩ : ∃ m, M = m + 1 := ⟨M - 1, by omega⟩
  rw [hlv]
theorem hlv_zero : hlv 0 = [] := by rw [hlv]
theorem hlv_len : ∀ (L M : Nat), IsLen M L → (hlv M).length = L := by
  intro L
  induction L with
  | zero =>
    intro M h
    have := h.lt
    obtain rfl : M = 0 := by simp at this; omega
    rw [hlv_zero]; rfl
  | succ L ih =>
    intro M h
    have h1 := h.lt
    have h2 := h.le (by omega)
    simp only [Nat.add_sub_cancel] at h2
    have h0 : M ≠ 0 := by have := Nat.two_pow_pos L; omega
    rw [hlv_pos h0, List.length_cons, ih (M / 2) ⟨by rw [Nat.pow_succ] at h1; omega, fun hL => by
      have h3 : 2 ^ L = 2 ^ (L - 1) * 2 := by rw [← Nat.pow_succ]; congr 1; omega
      omega⟩]
theorem cell_same {W W' : World} {p : Addr} (h : W.heap[p.block]? = W'.heap[p.block]?) : W.cell? p = W'.cell? p := by
  unfold World.cell?
  rw [h]
theorem isN_len {w : World} {v : Value} {N : Nat} (h : IsN w v N) : ∃ L, IsLen N L ∧ L ≤ 640000 := by
  obtain ⟨a, c, us, rfl, _, _, hw, rfl, hl, hlast, _⟩ := h
  by_cases hne : us = []
  · subst hne
    exact ⟨0, ⟨by simp [wv], fun h => absurd h (by decide)⟩, by omega⟩
  · have hx := getW hw (us.length - 1)
    have hL := isLen_bitLen _ _ (Nat.le_refl _) hx
    have h64 : Lib.bitLen (us.getD (us.length - 1) 0) ≤ 64 := by
      rcases Nat.lt_or_ge 64 (Lib.bitLen (us.getD (us.length - 1) 0)) with hgt | hle
      · exfalso
        have h1 := hL.le (by omega)
        have h2 : 2 ^ 64 ≤ 2 ^ (Lib.bitLen (us.getD (us.length - 1) 0) - 1) := Nat.pow_le_pow_right (by omega) (by omega)
        omega
      · exact hle
    exact ⟨_, isLen_words hw hne hL (hlast hne), by omega⟩
theorem isN_inj {w : World} {v : Value} {M N : Nat} (h : IsN w v M) (h' : IsN w v N) : M = N := by
  obtain ⟨a, c, us, rfl, _, hu, _, rfl, _⟩ := h
  obtain ⟨a', c', us', he, _, hu', _, rfl, _⟩ := h'
  have h1 := congrArg (fun v => match v with | Value.agg xs => xs[0]? | _ => none) he
  simp at h1
  obtain ⟨rfl, h2, rfl⟩ := h1
  have : us = us' := by
    apply List.ext_getElem h2
    intro i h3 h4
    obtain ⟨ad, had, _, hc⟩ := hu i h3
    obtain ⟨ad', had', _, hc'⟩ := hu' i h4
    rw [had] at had'
    cases had'
    rw [hc] at hc'
    simp only [Option.some.injEq, Value.int.injEq, true_and] at hc'
    rw [List.getD_eq_getElem?_getD, List.getD_eq_getElem?_getD, List.getElem?_eq_getElem h3, List.getElem?_eq_getElem h4] at hc'
    simpa using Int.ofNat.inj hc'
  rw [this]
/-- Blocks that lie apart: Live is what the loop's own variables owe. -/
structure FarOk (Live : World → Prop) (Far : World → Nat → Obj → Prop) : Prop where
  at_ : ∀ {W g o}, Far W g o → W.heap[g]? = some o
  live : ∀ {W W'}, Live W → Below W.heap.size W W' → Live W'
  far : ∀ {W W' g o}, Far W g o → Below W.heap.size W W' → Far W' g o
  new : ∀ {W W' g o}, Live W → Below W.heap.size W W' → W.heap.size ≤ g → W'.heap[g]? = some o → o.isCells = true → Far W' g o
def Kp (Live : World → Prop) (Far : World → Nat → Obj → Prop) (W W' : World) : Prop := (Live W → Live W') ∧ ∀ g o, Far W g o → Far W' g o
theorem Kp.trans {Live : World → Prop} {Far : World → Nat → Obj → Prop} {A B C : World} (h : Kp Live Far A B) (k : Kp Live Far B C) : Kp Live Far A C := ⟨fun x => k.1 (h.1 x), fun g o x => k.2 g o (h.2 g o x)⟩
/-- The value v is the number N, its words apart. -/
def FN (Far : World → Nat → Obj → Prop) (W : World) (v : Value) (N : Nat) : Prop := IsN W v N ∧ ∀ ad n c, v = .agg #[.slice (some ad) n c] → ∃ o, Far W ad.block o
theorem FN.kept {Live : World → Prop} {Far : World → Nat → Obj → Prop} (ok : FarOk Live Far) {W W' : World} {v : Value} {N : Nat} (h : FN Far W v N) (hk : ∀ g o, Far W g o → Far W' g o) : FN Far W' v N := by
  obtain ⟨⟨a, c, us, rfl, h2, h3, h4⟩, hf⟩ := h
  refine ⟨⟨a, c, us, rfl, h2, fun j hj => ?_, h4⟩, fun ad n c e => ?_⟩
  · obtain ⟨ad, rfl, hlt, hc⟩ := h3 j hj
    obtain ⟨o, ho⟩ := hf ad _ _ rfl
    have e1 := ok.at_ ho
    have e2 := ok.at_ (hk _ _ ho)
    exact ⟨ad, rfl, (Array.getElem?_eq_some_iff.1 e2).1, by rw [← hc]; exact cell_same (by rw [add_block, e1, e2])⟩
  · obtain ⟨o, ho⟩ := hf ad n c e
    exact ⟨o, hk _ _ ho⟩
theorem FN.below {Live : World → Prop} {Far : World → Nat → Obj → Prop} (ok : FarOk Live Far) {W W' : World} {v : Value} {N : Nat} (h : FN Far W v N) (hb : Below W.heap.size W W') : FN Far W' v N := h.kept ok (fun g o hf => ok.far hf hb)
theorem FN.fresh {Live : World → Prop} {Far : World → Nat → Obj → Prop} (ok : FarOk Live Far) {W W' : World} {v : Value} {N : Nat} (hL : Live W) (hb : Below W.heap.size W W') (h : IsN W' v N) (hf : Fresh W.heap.size v) : FN Far W' v N := by
  refine ⟨h, fun ad n c e => ?_⟩
  subst e
  obtain ⟨a, c', us, he, h2, h3, _, _, _, _, h5⟩ := h
  have h1 := congrArg (fun v => match v with | Value.agg xs => xs[0]? | _ => none) he
  simp at h1
  obtain ⟨rfl, hn, rfl⟩ := h1
  have hne : us ≠ [] := fun e => by have := (h5 e).1; cases this
  obtain ⟨ad', hade, hlt, hc⟩ := h3 0 (List.length_pos_iff.2 hne)
  cases hade
  have hg := hf ad n c rfl
  obtain ⟨o, ho⟩ : ∃ o, W'.heap[ad.block]? = some o := ⟨_, Array.getElem?_eq_getElem hlt⟩
  refine ⟨o, ok.new hL hb hg ho ?_⟩
  unfold World.cell? at hc
  rw [add_block, ho] at hc
  cases o <;> first | rfl | simp at hc
/-- The number that a variable holds. -/
noncomputable def numAt (w : World) (p : Value) : Nat := by
  classical exact if h : ∃ M b x y z, p = .pointer (some ⟨b, 0, none⟩) ∧ w.cell? ⟨b, 0, none⟩ = some (.slice x y z) ∧ IsN w (.agg #[.slice x y z]) M then h.choose else 0
theorem numAt_eq {w : World} {b M : Nat} {x : Option Addr} {y z : Nat} (hc : w.cell? ⟨b, 0, none⟩ = some (.slice x y z)) (hN : IsN w (.agg #[.slice x y z]) M) : numAt w (.pointer (some ⟨b, 0, none⟩)) = M := by
  have h : ∃ M b' x y z, Value.pointer (some ⟨b, 0, none⟩) = .pointer (some ⟨b', 0, none⟩) ∧ w.cell? ⟨b', 0, none⟩ = some (.slice x y z) ∧ IsN w (.agg #[.slice x y z]) M := ⟨M, b, x, y, z, rfl, hc, hN⟩
  unfold numAt
  rw [dif_pos h]
  obtain ⟨b', x', y', z', h1, h2, h3⟩ := h.choose_spec
  cases h1
  rw [hc] at h2
  cases h2
  exact isN_inj h3 hN
end Go.Proofs.YtllmacokhjmdgaaGreatDoor
