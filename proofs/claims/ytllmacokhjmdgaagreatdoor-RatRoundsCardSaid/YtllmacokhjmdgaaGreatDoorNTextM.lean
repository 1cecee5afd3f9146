/-
  Law 1: decimal digits by parts of nineteen.
-/
import Derived.Test.YtllmacokhjmdgaaGreatDoorNFmt
namespace Go.Proofs.YtllmacokhjmdgaaGreatDoor
open Go.RowKit
set_option linter.unusedVariables false
/-- The last k digits of b. -/
def pk : Nat → Nat → List UInt8
  | 0, _ => []
  | k + 1, b => pk k (b / 10) ++ [UInt8.ofNat (48 + b % 10)]
theorem dec_join (k : Nat) : ∀ a b : Nat, 0 < a → b < 10 ^ k → Lib.decDigits (a * 10 ^ k + b) = Lib.decDigits a ++ pk k b := by
  induction k with
  | zero => intro a b ha hb; have : b = 0 := by simpa using hb
            subst this; simp [pk]
  | succ k ih =>
    intro a b ha hb
    have hp : 1 ≤ 10 ^ k := Nat.pos_of_ne_zero (by have := Nat.pow_pos (n := k) (show 0 < 10 by decide); omega)
    have he : a * 10 ^ (k + 1) = 10 * (a * 10 ^ k) := by rw [Nat.pow_succ, ← Nat.mul_assoc, Nat.mul_comm]
    have hge : 1 * 1 ≤ a * 10 ^ k := Nat.mul_le_mul ha hp
    rw [Nat.pow_succ] at hb
    rw [he, Lib.decDigits, dif_neg (by omega), show (10 * (a * 10 ^ k) + b) / 10 = a * 10 ^ k + b / 10 from by omega, show (10 * (a * 10 ^ k) + b) % 10 = b % 10 from by omega, ih a (b / 10) ha (by omega)]
    simp [pk]
theorem pk_zero : ∀ k, pk k 0 = List.replicate k 48 := by
  intro k
  induction k with
  | zero => rfl
  | succ k ih => simp only [pk, Nat.zero_div, ih, List.replicate_succ']; rfl
theorem pk_pad (k : Nat) : ∀ b : Nat, b < 10 ^ (k + 1) → pk (k + 1) b = List.replicate (k + 1 - Lib.nDigits b) 48 ++ Lib.decDigits b := by
  induction k with
  | zero =>
    intro b hb
    have hb' : b < 10 := by simpa using hb
    rw [Lib.nDigits_small hb', Lib.decDigits_one hb']
    simp [pk, Nat.mod_eq_of_lt hb']
  | succ k ih =>
    intro b hb
    rw [Nat.pow_succ] at hb
    show pk (k + 1) (b / 10) ++ [UInt8.ofNat (48 + b % 10)] = _
    by_cases h10 : b < 10
    · rw [Nat.div_eq_of_lt h10, pk_zero, Lib.nDigits_small h10, Lib.decDigits_one h10, Nat.mod_eq_of_lt h10]
      rfl
    · rw [ih (b / 10) (by omega), Lib.nDigits_big h10]
      conv => rhs; rw [Lib.decDigits, dif_neg h10]
      rw [← List.append_assoc]
      congr 3
      omega
/-- The number of parts, the lowest first. -/
def pv : List Nat → Nat
  | [] => 0
  | x :: r => x + 10000000000000000000 * pv r
theorem pv_append (a b : List Nat) : pv (a ++ b) = pv a + 10000000000000000000 ^ a.length * pv b := by
  induction a with
  | nil => simp [pv]
  | cons x r ih => simp only [List.cons_append, pv, ih, List.length_cons, Nat.pow_succ]; rw [Nat.mul_add, ← Nat.mul_assoc, Nat.mul_comm (10000000000000000000 ^ r.length)]; omega
def Prt (ps : List Nat) : Prop := ∀ p ∈ ps, p < 10000000000000000000
theorem pv_pos : ∀ (ps : List Nat), (∃ r x, ps = r ++ [x] ∧ x ≠ 0) → 0 < pv ps := by
  rintro ps ⟨r, x, rfl, hx⟩
  rw [pv_append]
  have h1 : 0 < 10000000000000000000 ^ r.length := Nat.pow_pos (by decide)
  have h2 : 0 < pv [x] := by simp [pv]; omega
  have := Nat.mul_pos h1 h2
  omega
/-- One more part ahead: its digits, noughts ahead of them. -/
theorem dec_part (x R : Nat) (hR : 0 < R) (hx : x < 10000000000000000000) :
    Lib.decDigits (x + 10000000000000000000 * R) = Lib.decDigits R ++ (List.replicate (19 - Lib.nDigits x) 48 ++ Lib.decDigits x) := by
  have e19 : (10 : Nat) ^ 19 = 10000000000000000000 := by decide
  have h := dec_join 19 R x hR (by rw [e19]; exact hx)
  rw [e19, pk_pad 18 x (by rw [e19]; exact hx)] at h
  rw [← h, Nat.add_comm, Nat.mul_comm]
/-- What the inner loop keeps: the words from place j on are divided, qs is what they come to, r is left. -/
structure Dv (us : List Nat) (j : Nat) (qs : List Nat) (r : Nat) : Prop where
  len : qs.length + j = us.length
  wrd : Wrd qs
  eq : wv (us.drop j) = wv qs * 10000000000000000000 + r
  lt : r < 10000000000000000000
theorem dv_stepd {us qs : List Nat} {j r : Nat} (h : Dv us (j + 1) qs r) (hj : j < us.length) (hx : us.getD j 0 < 18446744073709551616) :
    Dv us j ((r * 18446744073709551616 + us.getD j 0) / 10000000000000000000 :: qs) ((r * 18446744073709551616 + us.getD j 0) % 10000000000000000000) := by
  have hdrop : us.drop j = us.getD j 0 :: us.drop (j + 1) := by
    rw [List.drop_eq_getElem_cons hj]
    congr 1
    rw [List.getD_eq_getElem?_getD, List.getElem?_eq_getElem hj]; rfl
  have he := h.eq
  have hlt := h.lt
  have hl := h.len
  generalize us.getD j 0 = x at *
  refine ⟨by rw [List.length_cons]; omega, ?_, ?_, by omega⟩
  · intro u hu
    rcases List.mem_cons.1 hu with rfl | hu
    · omega
    · exact h.wrd u hu
  · rw [hdrop]
    simp only [wv]
    rw [he]
    have hd := Nat.div_add_mod (r * 18446744073709551616 + x) 10000000000000000000
    generalize (r * 18446744073709551616 + x) / 10000000000000000000 = q at *
    generalize (r * 18446744073709551616 + x) % 10000000000000000000 = m at *
    rw [Nat.mul_add, Nat.add_mul]
    generalize wv qs = Q at *
    have : 18446744073709551616 * (Q * 10000000000000000000) = 18446744073709551616 * Q * 10000000000000000000 := by rw [Nat.mul_assoc]
    omega
/-- What the outer loop keeps: ps are the parts that are told, us is what is left. -/
structure Tx (N : Nat) (us ps : List Nat) : Prop where
  val : N = pv ps + 10000000000000000000 ^ ps.length * wv us
  wrd : Wrd us
  prt : Prt ps
  norm : us ≠ [] → us.getD (us.length - 1) 0 ≠ 0
  last : us = [] → ps = [] ∨ ∃ r x, ps = r ++ [x] ∧ x ≠ 0
theorem wv_pos {us : List Nat} (h : us ≠ []) (hn : us.getD (us.length - 1) 0 ≠ 0) : 0 < wv us := by
  rcases List.eq_nil_or_concat us with rfl | ⟨r, x, rfl⟩
  · exact absurd rfl h
  · rw [List.concat_eq_append] at *
    have hx : x ≠ 0 := by
      simpa [List.getD_eq_getElem?_getD] using hn
    rw [wv_append]
    have h1 : 0 < 18446744073709551616 ^ r.length := Nat.pow_pos (by decide)
    have h2 : 0 < wv [x] := by simp [wv]; omega
    have := Nat.mul_pos h1 h2
    omega
theorem tx_lt {N : Nat} {us ps : List Nat} (h : Tx N us ps) (hu : us ≠ []) : ps.length < N := by
  have h1 := wv_pos hu (h.norm hu)
  have h2 : ps.length < 10000000000000000000 ^ ps.length := Nat.lt_pow_self (by decide)
  have h3 : 10000000000000000000 ^ ps.length * 1 ≤ 10000000000000000000 ^ ps.length * wv us := Nat.mul_le_mul_left _ h1
  have := h.val
  omega
theorem tx_step {N : Nat} {us ps qs : List Nat} {r : Nat} (h : Tx N us ps) (hu : us ≠ []) (hd : Dv us 0 qs r) : Tx N (qs.take (tlen qs qs.length)) (ps ++ [r]) := by
  have hv := tlen_wv qs qs.length (Nat.le_refl _)
  rw [List.take_length] at hv
  have hle := tlen_le qs qs.length
  have hlast := tlen_last qs qs.length
  have he := hd.eq
  rw [List.drop_zero] at he
  have hpos := wv_pos hu (h.norm hu)
  generalize tlen qs qs.length = m at *
  have hlm : (qs.take m).length = m := by rw [List.length_take]; omega
  refine ⟨?_, fun u hx => hd.wrd u (List.mem_of_mem_take hx), ?_, ?_, ?_⟩
  · rw [h.val, he, pv_append, List.length_append, hv, List.length_singleton, Nat.pow_succ]
    simp only [pv, Nat.mul_zero, Nat.add_zero]
    rw [Nat.mul_add, Nat.mul_comm (wv qs), ← Nat.mul_assoc]
    omega
  · intro p hp
    rcases List.mem_append.1 hp with hp | hp
    · exact h.prt p hp
    · simp at hp; rw [hp]; exact hd.lt
  · intro hne
    have hm0 : 0 < m := by
      rcases Nat.eq_zero_or_pos m with h0 | h0
      · rw [h0] at hne; simp at hne
      · exact h0
    rw [hlm, List.getD_eq_getElem?_getD, List.getElem?_take, if_pos (by omega), ← List.getD_eq_getElem?_getD]
    exact hlast hm0
  · intro hnil
    refine .inr ⟨ps, r, rfl, ?_⟩
    have h0 : wv qs = 0 := by rw [← hv, hnil]; rfl
    rw [h0] at he
    omega
theorem wv_lt : ∀ (us : List Nat), Wrd us → wv us < 18446744073709551616 ^ us.length := by
  intro us
  induction us with
  | nil => intro _; decide
  | cons x r ih =>
    intro h
    have h1 := ih (fun u hu => h u (List.mem_cons_of_mem _ hu))
    have h2 := h x (List.mem_cons_self)
    simp only [wv, List.length_cons, Nat.pow_succ]
    rw [Nat.mul_comm (18446744073709551616 ^ r.length)]
    have h3 : 18446744073709551616 * (wv r + 1) ≤ 18446744073709551616 * 18446744073709551616 ^ r.length := Nat.mul_le_mul_left _ h1
    omega
theorem tx_len {N L : Nat} {us ps : List Nat} (h : Tx N us ps) (hu : us ≠ []) (hN : N < 18446744073709551616 ^ L) : ps.length < 2 * L := by
  have h1 := wv_pos hu (h.norm hu)
  have h3 : 10000000000000000000 ^ ps.length * 1 ≤ 10000000000000000000 ^ ps.length * wv us := Nat.mul_le_mul_left _ h1
  have hv := h.val
  have h4 : 18446744073709551616 ^ L ≤ (10000000000000000000 ^ 2) ^ L := Nat.pow_le_pow_left (by decide) L
  rw [← Nat.pow_mul] at h4
  have h5 : 10000000000000000000 ^ ps.length < 10000000000000000000 ^ (2 * L) := by omega
  exact (Nat.pow_lt_pow_iff_right (by decide)).1 h5
/-- Two rows of words of the call's own, in blocks of their own. -/
structure Tw (B : Nat) (w W : World) (v1 v2 : Value) (us ps : List Nat) : Prop where
  o1 : OU B W v1 us
  o2 : OU B W v2 ps
  ne : ∀ g, v1.ownBlock = some g → v2.ownBlock ≠ some g
  bel : Below B w W
  size : B ≤ W.heap.size
theorem grown_set (W : World) (g i : Nat) (u : Value) : W.grownBy (W.setCell ⟨g, i, none⟩ u) (some g) := ⟨rfl, rfl, rfl, by simp, fun k _ hk => Below.heap_setCell _ _ _ k (fun e => hk (by rw [e]))⟩
theorem row_far {W W' : World} {row : Option Nat} {b : Nat} {e : TypeId} {s : Nat} {v : Value} {n : Nat} {xs : List Value} (h : W.ownsRow b e s v n xs) (hg : W.grownBy W' row) (hne : ∀ g, row = some g → v.ownBlock ≠ some g) : W'.ownsRow b e s v n xs := by
  refine h.kept hg ?_
  cases hv : v.ownBlock with
  | none => exact .inl rfl
  | some g => exact .inr (fun e => hne g e.symm (by rw [hv]))
section
variable {B : Nat} {w W : World} {v1 v2 : Value} {us ps : List Nat}
theorem Tw.alloc (h : Tw B w W v1 v2 us ps) (o : Obj) : Tw B w (W.alloc o) v1 v2 us ps := ⟨World.ownsRow.alloc h.o1 o, World.ownsRow.alloc h.o2 o, h.ne, h.bel.alloc h.size o, by simp; have := h.size; omega⟩
theorem Tw.below {W' : World} (h : Tw B w W v1 v2 us ps) (hb : Below W.heap.size W W') : Tw B w W' v1 v2 us ps := by
  have hg : W.grownBy W' none := grown_below hb (Nat.le_refl _)
  exact ⟨row_far h.o1 hg (fun g e => by cases e), row_far h.o2 hg (fun g e => by cases e), h.ne, h.bel.trans (hb.mono h.size), Nat.le_trans h.size hb.size⟩
theorem Tw.set {g n c : Nat} (h : Tw B w W (.slice (some ⟨g, 0, none⟩) n c) v2 us ps) (hn : us.length = n) (i x : Nat) (hi : i < n) : Tw B w (W.setCell ⟨g, i, none⟩ (.int .u64 (x : Int))) (.slice (some ⟨g, 0, none⟩) n c) v2 (us.set i x) ps := by
  subst hn
  have hb := ou_block h.o1
  refine ⟨?_, row_far (row := some g) h.o2 (grown_set W g i _) (fun k e e' => by cases e; exact h.ne g rfl e'), h.ne, h.bel.setCell (p := ⟨g, i, none⟩) hb.1 _, by rw [World.size_setCell]; exact h.size⟩
  have := ou_set h.o1 i x hi
  unfold OU
  rw [List.length_set]
  exact this
theorem ou_trim {a : Option Addr} {c : Nat} (h : OU B W (.slice a us.length c) us) (m : Nat) (hm : m ≤ us.length) : OU B W (trimV a c m) (us.take m) := by
  unfold trimV
  by_cases h0 : m = 0
  · rw [if_pos h0, h0]
    exact World.ownsRow_nil _ _ _ _
  · rw [if_neg h0]
    unfold OU
    rw [List.length_take, Nat.min_eq_left hm]
    rcases h.2 with ⟨he, hl⟩ | ⟨g, cap, cur, he, hbg, hg, hnc, hmx, hsz, htk⟩
    · omega
    · cases he
      refine ⟨by simp; omega, .inr ⟨g, c, cur, rfl, hbg, hg, by omega, hmx, hsz, ?_⟩⟩
      rw [List.map_take, ← htk, List.take_take]
      congr 1
      omega
theorem Tw.trim {a : Option Addr} {c : Nat} (h : Tw B w W (.slice a us.length c) v2 us ps) (m : Nat) (hm : m ≤ us.length) : Tw B w W (trimV a c m) v2 (us.take m) ps := by
  refine ⟨ou_trim h.o1 m hm, h.o2, fun g hg => ?_, h.bel, h.size⟩
  unfold trimV at hg
  split at hg
  · cases hg
  · exact h.ne g (by
      cases a with
      | none => cases hg
      | some ad => exact hg)
end
theorem push_t {ops : Array Oper} {rest : List Oper} {o : Oper} {a : Act} {Q : Exit → Act → World → Prop} (hgd : o.guard = none) (s x : Operand)
    (ho : o.op = .call { callee := .builtin .append, args := #[s, x], argTypes := #[24, 24] }) (B : Nat) (w W : World) (v1 v2 : Value) (us ps : List Nat) (u : Nat)
    (hs : a.eval s = v2) (hd : Tw B w W v1 v2 us ps) (g : Nat) (hgW : W.heap.size = g) (hx : a.eval x = .slice (some ⟨g, 0, none⟩) 1 1) (hlen : ps.length ≤ 1000000)
    (h : ∀ v' W', Tw B w W' v1 v' us (ps ++ [u]) → wpList Tryz.prog ops Q rest (a.put o.dst v') W') :
    wpList Tryz.prog ops Q (o :: rest) a (W.alloc (.cells #[.int .u64 (u : Int)] 22)) := by
  obtain ⟨i0, hi, hz0, hz1, hz2⟩ := info_parts Tryz.infoU
  subst hgW
  have hd' := hd.alloc (.cells #[.int .u64 (u : Int)] 22)
  have hl1 := hd.o1.lt
  have hl2 := hd.o2.lt
  refine wpList_append_own_at _ hgd s x 24 ho B 22 i0 (.int .u64 0) 1 8 Tryz.underlying24 hi hz0 hz1 hz2 rfl (by decide) v2 ps.length _ hs hd'.o2 ⟨W.heap.size, 0, none⟩ 1 1 [.int .u64 (u : Int)] hx rfl (cell_one_new _ _ _) ?_ ?_ ?_ hd'.size ?_
  · intro y hy; simp at hy; subst hy; rfl
  · unfold maxLen; omega
  · omega
  · intro v' W' hown' hg _ hat
    have hb : Below B W W' := ((Below.refl B W).alloc hd.size _).grown hg hd'.size (fun k hk => (hl2 k hk).1)
    refine h v' W' ⟨row_far hd'.o1 hg (fun k e e' => hd.ne k e' e), ?_, ?_, hd.bel.trans hb, Nat.le_trans hd.size hb.size⟩
    · unfold OU
      rw [List.map_append, List.length_append]
      exact hown'
    · intro k hk1 hk2
      rcases hat with e | e
      · rw [e] at hk2; exact hd.ne k hk1 hk2
      · rw [e] at hk2; cases hk2; have := (hl1 _ hk1).2; simp at this; omega
end Go.Proofs.YtllmacokhjmdgaaGreatDoor
