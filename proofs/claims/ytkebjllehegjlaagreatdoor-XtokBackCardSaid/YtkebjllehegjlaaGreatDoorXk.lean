/-
  Law 7: plain mathematics: texts that XML takes whole, and how writing single bytes otherwise leaves that as it is.
-/
import Derived.Test.YtkebjllehegjlaaGreatDoorUtMath
namespace Go.Proofs.YtkebjllehegjlaaGreatDoor
set_option linter.unusedVariables false
theorem u1_ascii (c : UInt8) (t : List UInt8) (h : c.toNat < 128) : u1 (c :: t) = (c.toNat, 1) := by
  refine u1_good c t c.toNat 1 c.toNat ?_ (by decide) rfl ?_
  · unfold uHead; rw [if_pos h]
  · unfold uSize; rw [if_neg (by omega), if_pos h]
theorem u1_wide (c : UInt8) (t : List UInt8) (h : 128 ≤ c.toNat) (h0 : (u1 (c :: t)).2 ≠ 0) : 1 < (u1 (c :: t)).2 := by
  obtain ⟨R, N, hRN⟩ : ∃ R N, uHead c.toNat = (R, N) := ⟨_, _, rfl⟩
  rw [u1_cons c t R N hRN] at h0 ⊢
  have hN : N ≠ 1 := by
    intro e
    unfold uHead at hRN
    rw [if_neg (by omega)] at hRN
    subst e
    (repeat' split at hRN) <;> simp at hRN
  by_cases hN0 : N = 0
  · rw [if_pos hN0] at h0; exact absurd rfl h0
  · rw [if_neg hN0] at h0 ⊢
    cases ht : uTail (N - 1) R t with
    | none => rw [ht] at h0; exact absurd rfl h0
    | some r =>
      rw [ht] at h0
      dsimp only at h0 ⊢
      split
      · dsimp only; omega
      · rename_i hh; rw [if_neg hh] at h0; exact absurd rfl h0
/-- Whole, and of characters that XML takes. -/
def good (l : List UInt8) : Prop := uEnd l = l.length ∧ ∀ p ∈ uRunes l 0, uChar (p.2 : Int) = true
theorem runes_at : ∀ (n : Nat) (l : List UInt8) (k j : Nat), l.length ≤ n → (uRunes l k).map (·.2) = (uRunes l j).map (·.2) := by
  intro n
  induction n with
  | zero =>
    intro l k j h
    have : l = [] := List.length_eq_zero_iff.1 (by omega)
    subst this
    rfl
  | succ n ih =>
    intro l k j h
    by_cases h0 : (u1 l).2 = 0
    · rw [uRunes_stop l k h0, uRunes_stop l j h0]
    · have hl : l ≠ [] := fun e => h0 (by rw [e]; rfl)
      have hl1 : 0 < l.length := List.length_pos_iff.2 hl
      rw [uRunes_go l k h0, uRunes_go l j h0, List.map_cons, List.map_cons, ih (l.drop (u1 l).2) _ (j + (u1 l).2) (by rw [List.length_drop]; omega)]
theorem good_nil : good [] := ⟨rfl, fun p hp => by cases hp⟩
theorem runes_all (l : List UInt8) (k : Nat) (h : ∀ p ∈ uRunes l 0, uChar (p.2 : Int) = true) : ∀ p ∈ uRunes l k, uChar (p.2 : Int) = true := fun p hp => by
  have h1 : p.2 ∈ (uRunes l k).map (·.2) := List.mem_map.2 ⟨p, hp, rfl⟩
  rw [runes_at l.length l k 0 (Nat.le_refl _)] at h1
  obtain ⟨q, hq, e⟩ := List.mem_map.1 h1
  rw [← e]
  exact h q hq
theorem good_stop (l : List UInt8) (h : (u1 l).2 = 0) (hl : l ≠ []) : ¬ good l := fun hg => by
  have h1 := hg.1
  rw [uEnd_stop l h] at h1
  exact hl (List.length_eq_zero_iff.1 h1.symm)
theorem good_go (l : List UInt8) (h : (u1 l).2 ≠ 0) : good l ↔ uChar ((u1 l).1 : Int) = true ∧ good (l.drop (u1 l).2) := by
  have hle := u1_le l
  have e1 : uEnd l = (u1 l).2 + uEnd (l.drop (u1 l).2) := uEnd_go l h
  have e2 : uRunes l 0 = (0, (u1 l).1) :: uRunes (l.drop (u1 l).2) (0 + (u1 l).2) := uRunes_go l 0 h
  have e3 : (l.drop (u1 l).2).length = l.length - (u1 l).2 := List.length_drop
  unfold good
  rw [e2]
  constructor
  · rintro ⟨ha, hb⟩
    refine ⟨hb _ (List.mem_cons_self ..), by omega, fun p hp => ?_⟩
    have h1 : p.2 ∈ (uRunes (l.drop (u1 l).2) 0).map (·.2) := List.mem_map.2 ⟨p, hp, rfl⟩
    rw [runes_at _ _ 0 (0 + (u1 l).2) (Nat.le_refl _)] at h1
    obtain ⟨q, hq, e⟩ := List.mem_map.1 h1
    rw [← e]
    exact hb q (List.mem_cons_of_mem _ hq)
  · rintro ⟨ha, hb, hc⟩
    refine ⟨by omega, fun p hp => ?_⟩
    rcases List.mem_cons.1 hp with rfl | hp
    · exact ha
    · exact runes_all _ _ hc p hp
theorem good_ascii (c : UInt8) (t : List UInt8) (h : c.toNat < 128) : good (c :: t) ↔ uChar (c.toNat : Int) = true ∧ good t := by
  have e := u1_ascii c t h
  have := good_go (c :: t) (by rw [e]; exact Nat.one_ne_zero)
  rw [e] at this
  exact this
/-- All bytes of a text are plain characters that XML takes. -/
def plain (l : List UInt8) : Prop := ∀ y ∈ l, y.toNat < 128 ∧ uChar (y.toNat : Int) = true
theorem good_pre : ∀ (a l : List UInt8), plain a → (good (a ++ l) ↔ good l)
  | [], l, _ => Iff.rfl
  | c :: t, l, h => by
    have hc := h c (List.mem_cons_self ..)
    rw [List.cons_append, good_ascii c _ hc.1, good_pre t l (fun y hy => h y (List.mem_cons_of_mem _ hy))]
    exact ⟨fun x => x.2, fun x => ⟨hc.2, x⟩⟩
theorem good_plain (a : List UInt8) (h : plain a) : good a := by
  have := (good_pre a [] h).2 good_nil
  rwa [List.append_nil] at this
theorem uTail_post : ∀ (n q : Nat) (t b : List UInt8), plain b → uTail n q (t ++ b) = uTail n q t
  | 0, _, _, _, _ => by unfold uTail; rfl
  | n + 1, q, [], [], _ => rfl
  | n + 1, q, [], d :: b, h => by
    have hd := h d (List.mem_cons_self ..)
    rw [List.nil_append, uTail_fall n q d b (by omega)]
    rfl
  | n + 1, q, d :: t, b, h => by
    by_cases hd : 128 ≤ d.toNat ∧ d.toNat < 192
    · rw [List.cons_append, uTail_step n q d _ hd.1 hd.2, uTail_step n q d _ hd.1 hd.2]
      exact uTail_post n _ t b h
    · rw [List.cons_append, uTail_fall n q d _ hd, uTail_fall n q d _ hd]
theorem u1_post (c : UInt8) (t b : List UInt8) (h : plain b) : u1 (c :: (t ++ b)) = u1 (c :: t) := by
  obtain ⟨R, N, hRN⟩ : ∃ R N, uHead c.toNat = (R, N) := ⟨_, _, rfl⟩
  rw [u1_cons c _ R N hRN, u1_cons c _ R N hRN, uTail_post _ _ _ _ h]
theorem good_post : ∀ (n : Nat) (l b : List UInt8), l.length ≤ n → plain b → (good (l ++ b) ↔ good l) := by
  intro n
  induction n with
  | zero =>
    intro l b h hb
    have : l = [] := List.length_eq_zero_iff.1 (by omega)
    subst this
    exact ⟨fun _ => good_nil, fun _ => good_plain b hb⟩
  | succ n ih =>
    intro l b h hb
    match l with
    | [] => exact ⟨fun _ => good_nil, fun _ => good_plain b hb⟩
    | c :: t =>
      have e := u1_post c t b hb
      by_cases h0 : (u1 (c :: t)).2 = 0
      · rw [List.cons_append]
        exact ⟨fun hg => absurd hg (good_stop _ (by rw [e]; exact h0) (by simp)), fun hg => absurd hg (good_stop _ h0 (by simp))⟩
      · have hle := u1_le (c :: t)
        rw [List.cons_append, good_go _ (by rw [e]; exact h0), good_go (c :: t) h0, e]
        rw [show (c :: (t ++ b)).drop (u1 (c :: t)).2 = (c :: t).drop (u1 (c :: t)).2 ++ b from by rw [← List.cons_append, List.drop_append_of_le_length hle]]
        rw [ih _ b (by rw [List.length_drop]; simp only [List.length_cons] at h ⊢; omega) hb]
/-- How a byte is written: bytes above 127 stay; others become plain text, of characters that XML takes if it takes the byte itself. -/
structure Writes (f : UInt8 → List UInt8) : Prop where
  wide : ∀ c : UInt8, 128 ≤ c.toNat → f c = [c]
  some_ : ∀ c : UInt8, f c ≠ []
  low : ∀ c : UInt8, c.toNat < 128 → ∀ y ∈ f c, y.toNat < 128
  same : ∀ c : UInt8, c.toNat < 128 → ((∀ y ∈ f c, uChar (y.toNat : Int) = true) ↔ uChar (c.toNat : Int) = true)
theorem plain_go (l t : List UInt8) (h : ∀ y ∈ l, y.toNat < 128) : good (l ++ t) ↔ (∀ y ∈ l, uChar (y.toNat : Int) = true) ∧ good t := by
  induction l with
  | nil => exact ⟨fun hg => ⟨fun y hy => absurd hy (by simp), hg⟩, fun hg => hg.2⟩
  | cons c l ih =>
    rw [List.cons_append, good_ascii c _ (h c (List.mem_cons_self ..)), ih (fun y hy => h y (List.mem_cons_of_mem _ hy))]
    constructor
    · rintro ⟨a, b, d⟩
      exact ⟨fun y hy => (List.mem_cons.1 hy).elim (fun e => e ▸ a) (b y), d⟩
    · rintro ⟨a, b⟩
      exact ⟨a c (List.mem_cons_self ..), fun y hy => a y (List.mem_cons_of_mem _ hy), b⟩
section
variable {f : UInt8 → List UInt8} (F : Writes f)
include F
theorem Writes.tail : ∀ (n q : Nat) (t : List UInt8), uTail n q (t.flatMap f) = uTail n q t
  | 0, _, _ => by unfold uTail; rfl
  | n + 1, q, [] => rfl
  | n + 1, q, d :: t => by
    rw [List.flatMap_cons]
    by_cases h : d.toNat < 128
    · obtain ⟨a, r, hr⟩ := List.exists_cons_of_ne_nil (F.some_ d)
      have ha := F.low d h a (by rw [hr]; exact List.mem_cons_self ..)
      rw [hr, List.cons_append, uTail_fall n q a _ (by omega), uTail_fall n q d _ (by omega)]
    · rw [F.wide d (by omega), List.singleton_append]
      by_cases hd : 128 ≤ d.toNat ∧ d.toNat < 192
      · rw [uTail_step n q d _ hd.1 hd.2, uTail_step n q d _ hd.1 hd.2]
        exact Writes.tail n _ t
      · rw [uTail_fall n q d _ hd, uTail_fall n q d _ hd]
theorem Writes.u1 (c : UInt8) (t : List UInt8) : Go.Proofs.YtkebjllehegjlaaGreatDoor.u1 (c :: t.flatMap f) = Go.Proofs.YtkebjllehegjlaaGreatDoor.u1 (c :: t) := by
  obtain ⟨R, N, hRN⟩ : ∃ R N, uHead c.toNat = (R, N) := ⟨_, _, rfl⟩
  rw [u1_cons c _ R N hRN, u1_cons c _ R N hRN, F.tail]
theorem Writes.drop : ∀ (n q r : Nat) (t : List UInt8), uTail n q t = some r → (t.flatMap f).drop n = (t.drop n).flatMap f
  | 0, _, _, _, _ => rfl
  | n + 1, q, r, [], h => by unfold uTail at h; cases h
  | n + 1, q, r, d :: t, h => by
    by_cases hd : 128 ≤ d.toNat ∧ d.toNat < 192
    · rw [uTail_step n q d t hd.1 hd.2] at h
      rw [List.flatMap_cons, F.wide d hd.1, List.singleton_append, List.drop_succ_cons, List.drop_succ_cons]
      exact Writes.drop n _ r t h
    · rw [uTail_fall n q d t hd] at h
      cases h
theorem Writes.good : ∀ (n : Nat) (l : List UInt8), l.length ≤ n → (Go.Proofs.YtkebjllehegjlaaGreatDoor.good (l.flatMap f) ↔ Go.Proofs.YtkebjllehegjlaaGreatDoor.good l) := by
  intro n
  induction n with
  | zero =>
    intro l h
    have : l = [] := List.length_eq_zero_iff.1 (by omega)
    subst this
    exact Iff.rfl
  | succ n ih =>
    intro l h
    match l with
    | [] => exact Iff.rfl
    | c :: t =>
      simp only [List.length_cons] at h
      rw [List.flatMap_cons]
      by_cases hc : c.toNat < 128
      · rw [plain_go (f c) _ (F.low c hc), F.same c hc, good_ascii c t hc, ih t (by omega)]
      · rw [F.wide c (by omega), List.singleton_append]
        have e := F.u1 c t
        by_cases h0 : (Go.Proofs.YtkebjllehegjlaaGreatDoor.u1 (c :: t)).2 = 0
        · exact ⟨fun hg => absurd hg (good_stop _ (by rw [e]; exact h0) (by simp)), fun hg => absurd hg (good_stop _ h0 (by simp))⟩
        · rw [good_go _ (by rw [e]; exact h0), good_go (c :: t) h0, e]
          obtain ⟨R, N, hRN⟩ : ∃ R N, uHead c.toNat = (R, N) := ⟨_, _, rfl⟩
          have h0' := h0
          rw [u1_cons c t R N hRN] at h0'
          by_cases hN : N = 0
          · rw [if_pos hN] at h0'; exact absurd rfl h0'
          rw [if_neg hN] at h0'
          cases ht : uTail (N - 1) R t with
          | none => rw [ht] at h0'; exact absurd rfl h0'
          | some r =>
            rw [ht] at h0'
            dsimp only at h0'
            by_cases hs : uSize r = N
            · have e2 := u1_good c t R N r hRN hN ht hs
              obtain ⟨M, rfl⟩ : ∃ M, N = M + 1 := ⟨N - 1, by omega⟩
              rw [e2]
              dsimp only
              rw [List.drop_succ_cons, List.drop_succ_cons, F.drop M R r t ht, ih (t.drop M) (by rw [List.length_drop]; omega)]
            · rw [if_neg hs] at h0'; exact absurd rfl h0'
end
end Go.Proofs.YtkebjllehegjlaaGreatDoor
