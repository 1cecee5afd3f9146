/-
  The iterator over a message's fields, for a loop over it.
-/
import Derived.Test.YtbkcklefkhlciaaMseq
namespace Go.Proofs.Ytbkcklefkhlciaa
open Go.RowKit Go.Shelf
set_option linter.unusedVariables false
/-- What is told is known ahead. -/
theorem seq_stops {α : Type} (raw : α → Nat × (Fd × Nat)) (xs : List α) (n : Nat) (hn : 1 ≤ n) (S : Nat → Prop) (B1 B2 B3 m : Nat) (num : Int) (kb kc : Nat) (ks : List Int) (af : Option Addr) (cf : Nat) (l : List (Fd × Nat)) (hl : l.length ≤ 100000) (hks : ks.length ≤ 1000)
    (has : xs.map raw = mtell num ks 0 l) (w : World) (h : SeqIn S w B1 B2 B3 m num kb kc ks af cf l) (hS : ∀ g, S g → g < w.heap.size) :
    SeqStopsK Fence.wide n Try.prog 57 #[.pointer (some ⟨B1, 0, none⟩), .pointer (some ⟨B2, 0, none⟩), .pointer (some ⟨B3, 0, none⟩)] (fun x => margs (raw x)) (KeepS S) (fun ys => ys = xs) (fun pre => pre <+: xs) l.length w := fun lp J Jx W hW hJ _ hY h0 => by
  have hpre : ∀ k x, k ≤ xs.length → (xs.take k).map raw ++ [x] <+: xs.map raw → ∃ a, xs[k]? = some a ∧ x = raw a := by
    intro k x hk hp
    obtain ⟨t, ht⟩ := hp
    have h1 : (xs.map raw)[k]? = some x := by
      rw [← ht, List.append_assoc, List.getElem?_append_right (by simp; omega)]
      simp [Nat.min_eq_left hk]
    rw [List.getElem?_map] at h1
    obtain ⟨a, ha, hx⟩ := Option.map_eq_some_iff.1 h1
    exact ⟨a, ha, hx.symm⟩
  refine CallsIn.mono (seq_in n hn lp W.heap.size S B1 B2 B3 m num kb kc ks af cf l hl hks (fun pre W => ∃ k, k ≤ xs.length ∧ pre = (xs.take k).map raw ∧ J (xs.take k) W) (fun pre W => ∃ k, k ≤ xs.length ∧ pre = (xs.take k).map raw ∧ Jx (xs.take k) W) ?_ ?_ W (h.kept (KeepS.below hW hS)) ⟨0, by omega, by simp, by simpa using h0⟩) ?_
  · rintro pre X Y row ⟨k, h1, h2, h3⟩ hg hr
    exact ⟨k, h1, h2, hJ _ X Y row h3 hg hr⟩
  · rintro pre x W1 ⟨k, hk, rfl, hJ0⟩ hlt hp
    rw [← has] at hp
    obtain ⟨a, ha, rfl⟩ := hpre k x hk hp
    have hk1 : k + 1 ≤ xs.length := by
      rcases Nat.lt_or_ge k xs.length with h' | h'
      · exact h'
      · rw [List.getElem?_eq_none h'] at ha; cases ha
    have htk : xs.take (k + 1) = xs.take k ++ [a] := by rw [List.take_add_one, ha]; rfl
    obtain ⟨fn, tmps, assign, body, hy, hYR⟩ := hY (xs.take k) a W1 hJ0 (by simpa using hlt)
    refine ⟨fn, tmps, assign, body, hy, hYR.mono ?_⟩
    rintro e W' (⟨h1, h2, h3⟩ | ⟨h1, h2⟩)
    · exact .inl ⟨h1, ⟨k + 1, hk1, by rw [htk]; simp, by rw [htk]; exact h2⟩, h3⟩
    · exact .inr ⟨h1, ⟨k + 1, hk1, by rw [htk]; simp, by rw [htk]; exact h2⟩⟩
  · rintro e W' ⟨hv, ⟨ys, rfl, k, hk, h1, h2⟩ | ⟨pre, h0, k, hk, rfl, h2⟩⟩
    · have hke : k = xs.length := by
        have := congrArg List.length (has.trans h1)
        simp at this
        omega
      subst hke
      rw [List.take_length] at h2
      exact ⟨hv, .inl ⟨xs, rfl, h2⟩⟩
    · exact ⟨hv, .inr ⟨xs.take k, List.take_prefix _ _, h2⟩⟩
set_option maxRecDepth 100000 in
/-- each makes the iterator: it holds the message, the number, the kinds. -/
theorem each_msg (p : Option Addr) (num : Int) (ka : Option Addr) (kn kc : Nat) (w : World) :
    Calls Try.prog 47 #[.pointer p, .int .i64 num, .slice ka kn kc] w fun e w' => e = .returned (.func (.func 57) #[] #[.pointer (some ⟨w.heap.size, 0, none⟩), .pointer (some ⟨w.heap.size + 1, 0, none⟩), .pointer (some ⟨w.heap.size + 1 + 1, 0, none⟩)]) ∧
      ((w.alloc (.cells #[.pointer p] 31)).alloc (.cells #[.int .i64 num] 3)).alloc (.cells #[.slice ka kn kc] 27) = w' := by
  go_enter Try.func47, Try.ntmps47
  go_wp2
  go_ret
  exact ⟨rfl, rfl⟩
end Go.Proofs.Ytbkcklefkhlciaa
