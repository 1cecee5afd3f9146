/-
  MsgBack: what its calls do, one behind the other.
-/
import Derived.Test.YtbkcklefkhlciaaAlive11
import Derived.Test.YtbkcklefkhlciaaMbackA
import Derived.Test.YtbkcklefkhlciaaMopen
namespace Go.Proofs.Ytbkcklefkhlciaa
open Go.RowKit
set_option linter.unusedVariables false
theorem below_dn {B : Nat} {a w : World} (h : Below B a w) (n : Nat) : Below B a (w.drewN n) := ⟨h.os, h.tape, h.output, h.size, h.block⟩
theorem new_at (w : World) (m : Nat) (h : w.heap.size = m) : Calls Try.prog 9 #[] w fun e w' => e = .returned (.pointer (some ⟨m, 0, none⟩)) ∧ MsgP m m w' [] 0 ∧ Below m w w' := by subst h; exact new_any w
/-- What the calls do, one behind the other, where the input is small. -/
structure BackSteps (v : List Int) (p : List Nat) (s : List ByteArray) (u u1 : Nat) (a0 a1 a2 : Option Addr) (c0 c1 c2 : Nat) (M1 M2 M3 M4 M5 : List (Fd × ByteArray)) (BB : ByteArray) (isb : Bool) : Prop where
  pi : ∀ w1 m, MsgP m m w1 [] 0 → m ≤ w1.heap.size → IR w1 a0 v → Calls Try.prog 15 #[.pointer (some ⟨m, 0, none⟩), .int .i64 1, .slice a0 v.length c0] w1 (PutMs m m M1 w1)
  pf : ∀ w1 m, MsgP m m w1 M1 0 → m ≤ w1.heap.size → UR w1 a1 p → Calls Try.prog 19 #[.pointer (some ⟨m, 0, none⟩), .int .i64 2, .slice a1 p.length c1] w1 (PutMs m m M2 w1)
  pt : ∀ w1 m, MsgP m m w1 M2 0 → m ≤ w1.heap.size → TRB m w1 a2 s → Calls Try.prog 12 #[.pointer (some ⟨m, 0, none⟩), .int .i64 3, .slice a2 s.length c2] w1 (PutMs m m M3 w1)
  pu : ∀ w1 m, MsgP m m w1 M3 0 → m ≤ w1.heap.size → Calls Try.prog 10 #[.pointer (some ⟨m, 0, none⟩), .int .i64 4, .int .u64 (u1 : Int)] w1 (PutMs m m M4 w1)
  pv : ∀ w1 m, MsgP m m w1 M4 0 → m ≤ w1.heap.size → Calls Try.prog 10 #[.pointer (some ⟨m, 0, none⟩), .int .i64 4, .int .u64 (u : Int)] w1 (PutMs m m M5 w1)
  by_ : ∀ w1 m, MsgP m m w1 M5 0 → Calls Try.prog 23 #[.pointer (some ⟨m, 0, none⟩)] w1 (BytesIs BB w1)
  pa : ∀ w1, Calls Try.prog 33 #[.string BB] w1 (ParseIs M5 w1)
  ints : ∀ m k w1, MsgP k m w1 M5 0 → Calls Try.prog 28 #[.pointer (some ⟨m, 0, none⟩), .int .i64 1] w1 (IntsIs v w1)
  flts : ∀ m k w1, MsgP k m w1 M5 0 → Calls Try.prog 29 #[.pointer (some ⟨m, 0, none⟩), .int .i64 2] w1 (FltsIs p w1)
  texts : ∀ m k w1, MsgP k m w1 M5 0 → Calls Try.prog 30 #[.pointer (some ⟨m, 0, none⟩), .int .i64 3] w1 (TextsIs s w1)
  four : ∀ m k w1, MsgP k m w1 M5 0 → Calls Try.prog 24 #[.pointer (some ⟨m, 0, none⟩), .int .i64 4] w1 (GaveV (.tuple #[.int .u64 (u : Int), .bool true]) w1)
  five_ : ∀ m k w1, MsgP k m w1 M5 0 → Calls Try.prog 24 #[.pointer (some ⟨m, 0, none⟩), .int .i64 5] w1 (GaveV (.tuple #[.int .u64 0, .bool false]) w1)
  three : ∀ m k w1, MsgP k m w1 M5 0 → Calls Try.prog 27 #[.pointer (some ⟨m, 0, none⟩), .int .i64 3] w1 (fun e w' => ∃ t z, GaveV (.tuple #[.string t, .int .i64 z, .bool isb]) w1 e w')
theorem steps_all {v : List Int} {p : List Nat} {s : List ByteArray} {u u1 : Nat} (h : BackIn v p s u u1) (a0 a1 a2 : Option Addr) (c0 c1 c2 : Nat) :
    ∃ M1 M2 M3 M4 M5 BB, BackSteps v p s u u1 a0 a1 a2 c0 c1 c2 M1 M2 M3 M4 M5 BB (decide (0 < (s.length : Int))) := by
  obtain ⟨z1, z2, z3, z4, z5, z6, z7, z8⟩ := h.sizes
  have hall := h.all
  have hv := h.v60; have hp := h.p60
  have e5 : bM v p s u u1 = bI v ++ bF p ++ tFs 3 s ++ [uF 4 u1] ++ [uF 4 u] := by
    unfold bM bU; simp only [List.append_assoc, List.cons_append, List.nil_append]
  refine ⟨bI v, bI v ++ bF p, bI v ++ bF p ++ tFs 3 s, bI v ++ bF p ++ tFs 3 s ++ [uF 4 u1], bM v p s u u1, cat (bM v p s u u1), ?_, ?_, ?_, ?_, ?_, ?_, ?_, ?_, ?_, ?_, ?_, ?_, ?_⟩
  · intro w1 m h1 h2 h3
    unfold bI
    by_cases h0 : v.length = 0
    · rw [if_pos h0, h0]; exact putints_none m m [] 1 a0 c0 w1 h1
    · rw [if_neg h0]; exact putints_some m m [] 1 v a0 c0 w1 h2 h1 small_nil (by omega) (by omega) (by omega) (by omega) h3
  · intro w1 m h1 h2 h3
    have hS : Small (bI v) := ⟨by omega, by omega⟩
    generalize bI v = X at h1 hS ⊢
    unfold bF
    by_cases h0 : p.length = 0
    · rw [if_pos h0, h0, List.append_nil]; exact putflts_none m m X 2 a1 c1 w1 h1
    · rw [if_neg h0]; exact putflts_some m m X 2 p a1 c1 w1 h2 h1 hS (by omega) (by omega) (by omega) (by omega) h.pr h3
  · intro w1 m h1 h2 h3
    exact puttext_any m m (bI v ++ bF p) 3 a2 c2 s w1 h2 h1 ⟨by rw [List.length_append]; omega, by rw [cat_app, bsize_app]; omega⟩ (by omega) (by omega) (by have := h.s20; omega) (by have := h.sz; omega) h3
  · intro w1 m h1 h2
    exact putuint_any m m _ 4 u1 w1 h2 h1 ⟨by simp only [List.length_append]; omega, by simp only [cat_app, bsize_app]; omega⟩ (by omega) (by omega) h.u1
  · intro w1 m h1 h2
    rw [e5]
    exact putuint_any m m _ 4 u w1 h2 h1 ⟨by simp only [List.length_append, List.length_cons, List.length_nil]; omega, by simp only [cat_app, bsize_app, cat_one]; omega⟩ (by omega) (by omega) h.u
  · intro w1 m h1
    exact bytes_any m m _ w1 h1 (fun q hq => (h.good q hq).2.1) (by omega) (by omega)
  · intro w1
    exact parse_any _ _ (by omega) rfl (fun q hq => (h.good q hq).1) w1
  · intro m k w1 h1
    obtain ⟨xs, hx1, hx2⟩ := h.ints
    have := ints_any k m _ _ 1 xs (by rw [places_length]; omega) hx1 (by rw [hx2]; omega) w1 h1
    rw [hx2] at this
    exact this
  · intro m k w1 h1
    obtain ⟨xs, hx1, hx2⟩ := h.flts
    have := flts_any k m _ _ 2 xs (by rw [places_length]; omega) hx1 (by rw [hx2]; omega) w1 h1
    rw [hx2] at this
    exact this
  · intro m k w1 h1
    have := texts_any k m _ _ 0 3 _ (by rw [places_length]; omega) rfl w1 h1
    rw [bM_texts] at this
    exact this
  · intro m k w1 h1
    obtain ⟨xs, hx1, hx2, hx3⟩ := h.uint
    exact uint_any k m _ _ 0 4 xs (by rw [places_length]; omega) hx1 w1 h1 _ _ hx2 hx3
  · intro m k w1 h1
    exact uint_any k m _ _ 0 5 [] (by rw [places_length]; omega) (by rw [h.none]; rfl) w1 h1 0 false ⟨_, _, _, _, rfl⟩ rfl
  · intro m k w1 h1
    by_cases h0 : s.length = 0
    · have e0 : mtell 3 [2] 0 (places 0 (bM v p s u u1)) = [] := by
        have h2 := bM_texts (v := v) (p := p) (s := s) (u := u) (u1 := u1)
        have h3 := congrArg List.length h2
        rw [tvals_len, h0] at h3
        exact List.length_eq_zero_iff.1 h3
      have e1 : decide (0 < (s.length : Int)) = false := by rw [h0]; rfl
      rw [e1]
      exact (text_none k m _ _ 0 3 (by rw [places_length]; omega) e0 w1 h1).mono fun e w' hh => ⟨_, _, hh⟩
    · obtain ⟨xs, hx⟩ := h.lg 3 [2]
      have h2 := bM_texts (v := v) (p := p) (s := s) (u := u) (u1 := u1)
      have h3 := congrArg List.length h2
      rw [tvals_len, ← hx, List.length_map] at h3
      obtain ⟨x, hx1⟩ : ∃ x, xs.getLast? = some x := by
        cases hg : xs.getLast? with
        | none => rw [List.getLast?_eq_none_iff] at hg; rw [hg] at h3; exact absurd h3.symm h0
        | some x => exact ⟨x, rfl⟩
      have e1 : decide (0 < (s.length : Int)) = true := by simp; omega
      rw [e1]
      exact (text_some k m _ _ 0 3 xs x (by rw [places_length]; omega) hx hx1 w1 h1).mono fun e w' hh => ⟨_, _, hh⟩
end Go.Proofs.Ytbkcklefkhlciaa
