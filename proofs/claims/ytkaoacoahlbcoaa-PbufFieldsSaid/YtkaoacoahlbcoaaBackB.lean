/-
  Two rows of the call's own: one of ints, one of fields.
-/
import Derived.Test.YtkaoacoahlbcoaaBackA
namespace Go.Proofs.Ytkaoacoahlbcoaa
open Go.RowKit
theorem Try.infoInt : (Try.prog.info? 3).map (fun i => (i.zero, i.size, i.bytes)) = some (some (.int .i64 0), 1, 8) := by kernel_rfl
/-- Two slices of the call's own, in blocks of their own. -/
structure Duo (B : Nat) (w W : World) (v1 v2 : Value) (l1 : List Nat) (l2 : List (Fd × Nat)) : Prop where
  o1 : W.ownsRow B 3 1 v1 l1.length (l1.map (fun n : Nat => Value.int .i64 (n : Int)))
  o2 : W.ownsRow B 31 5 v2 l2.length (fdsC l2)
  ne : ∀ g, v1.ownBlock = some g → v2.ownBlock ≠ some g
  bel : Below B w W
  size : B ≤ W.heap.size
theorem row_far {W W' : World} {row : Option Nat} {b : Nat} {e : TypeId} {s : Nat} {v : Value} {n : Nat} {xs : List Value} (h : W.ownsRow b e s v n xs) (hg : W.grownBy W' row) (hne : ∀ g, row = some g → v.ownBlock ≠ some g) : W'.ownsRow b e s v n xs := by
  refine h.kept hg ?_
  cases hv : v.ownBlock with
  | none => exact .inl rfl
  | some g => exact .inr (fun e => hne g e.symm (by rw [hv]))
section
variable {B : Nat} {w W : World} {v1 v2 : Value} {l1 : List Nat} {l2 : List (Fd × Nat)}
theorem Duo.nil (B : Nat) (w : World) (h : B ≤ w.heap.size) : Duo B w w (.slice none 0 0) (.slice none 0 0) [] [] := ⟨World.ownsRow_nil _ _ _ _, World.ownsRow_nil _ _ _ _, (fun g e => by cases e), Below.refl _ _, h⟩
theorem Duo.alloc (h : Duo B w W v1 v2 l1 l2) (o : Obj) : Duo B w (W.alloc o) v1 v2 l1 l2 := ⟨h.o1.alloc o, h.o2.alloc o, h.ne, h.bel.alloc h.size o, by simp; have := h.size; omega⟩
theorem Duo.fresh1 (h : Duo B w W v1 v2 l1 l2) : v1.ownBlock ≠ some W.heap.size := fun e => by have := (h.o1.lt _ e).2; omega
theorem Duo.fresh2 (h : Duo B w W v1 v2 l1 l2) : v2.ownBlock ≠ some W.heap.size := fun e => by have := (h.o2.lt _ e).2; omega
theorem Duo.drewN (h : Duo B w W v1 v2 l1 l2) (n : Nat) : Duo B w (W.drewN n) v1 v2 l1 l2 := ⟨h.o1, h.o2, h.ne, below_drewN h.bel n, h.size⟩
theorem Duo.below {W' : World} (h : Duo B w W v1 v2 l1 l2) (hb : Below W.heap.size W W') : Duo B w W' v1 v2 l1 l2 := by
  have hg : W.grownBy W' none := grown_below hb (Nat.le_refl _)
  exact ⟨row_far h.o1 hg (fun g e => by cases e), row_far h.o2 hg (fun g e => by cases e), h.ne, h.bel.trans (hb.mono h.size), Nat.le_trans h.size hb.size⟩
end
theorem push_1 {ops : Array Oper} {rest : List Oper} {o : Oper} {a : Act} {Q : Exit → Act → World → Prop} (hgd : o.guard = none) (s x : Operand)
    (ho : o.op = .call { callee := .builtin .append, args := #[s, x], argTypes := #[53, 53] }) (B : Nat) (w W : World) (v1 v2 : Value) (l1 : List Nat) (l2 : List (Fd × Nat)) (n : Nat) (m : Int) (hm : m = (n : Int))
    (hs : a.eval s = v1) (hd : Duo B w W v1 v2 l1 l2) (g : Nat) (hgW : W.heap.size = g) (hx : a.eval x = .slice (some ⟨g, 0, none⟩) 1 1) (hlen : l1.length ≤ 1000000)
    (h : ∀ v' W', Duo B w W' v' v2 (l1 ++ [n]) l2 → Below B W W' → (∀ g t cs, Blk W g t cs → v1.ownBlock ≠ some g → Blk W' g t cs) → wpList Try.prog ops Q rest (a.put o.dst v') W') :
    wpList Try.prog ops Q (o :: rest) a (W.alloc (.cells #[.int .i64 m] 3)) := by
  obtain ⟨i0, hi, hz0, hz1, hz2⟩ := info_parts Try.infoInt
  subst hm
  subst hgW
  have hd' := hd.alloc (.cells #[.int .i64 (n : Int)] 3)
  have hl2 := hd.o2.lt
  have hl1 := hd.o1.lt
  refine wpList_append_own_at _ hgd s x 53 ho B 3 i0 (.int .i64 0) 1 8 Try.underlying53 hi hz0 hz1 hz2 rfl (by decide) v1 l1.length _ hs hd'.o1 ⟨W.heap.size, 0, none⟩ 1 1 [.int .i64 (n : Int)] hx rfl ?_ ?_ ?_ ?_ hd'.size ?_
  · intro j u hj
    match j, hj with
    | 0, hj => simp at hj; subst hj; simp [Addr.add]
  · intro u hu; simp at hu; subst hu; rfl
  · unfold maxLen; omega
  · omega
  · intro v' W' hown' hg _ hat
    have hb : Below B W W' := ((Below.refl B W).alloc hd.size _).grown hg hd'.size (fun k hk => (hl1 k hk).1)
    refine h v' W' ⟨?_, row_far hd'.o2 hg hd'.ne, ?_, hd.bel.trans hb, Nat.le_trans hd.size hb.size⟩ hb (fun g t cs hk hne => (hk.alloc _).kept hg (fun e => hne e.symm))
    · rw [List.map_append, List.length_append]
      exact hown'
    · intro g hg1 hg2
      rcases hat with e | e
      · rw [e] at hg1; exact hd.ne g hg1 hg2
      · rw [e] at hg1; cases hg1; have := (hl2 _ hg2).2; simp at this; omega
theorem push_2 {ops : Array Oper} {rest : List Oper} {o : Oper} {a : Act} {Q : Exit → Act → World → Prop} (hgd : o.guard = none) (s x : Operand)
    (ho : o.op = .call { callee := .builtin .append, args := #[s, x], argTypes := #[37, 37] }) (B : Nat) (w W : World) (v1 v2 : Value) (l1 : List Nat) (l2 : List (Fd × Nat)) (p : Fd × Nat) (cs : Array Value) (hcs : cs.toList = fdC p)
    (hs : a.eval s = v2) (hd : Duo B w W v1 v2 l1 l2) (g : Nat) (hgW : W.heap.size = g) (hx : a.eval x = .slice (some ⟨g, 0, none⟩) 1 1) (hlen : l2.length ≤ 1000000)
    (h : ∀ v' W', Duo B w W' v1 v' l1 (l2 ++ [p]) → Below B W W' → (∀ g t cs, Blk W g t cs → v2.ownBlock ≠ some g → Blk W' g t cs) → wpList Try.prog ops Q rest (a.put o.dst v') W') :
    wpList Try.prog ops Q (o :: rest) a (W.alloc (.cells cs 31)) := by
  obtain ⟨i0, hi, hz0, hz1, hz2⟩ := info_parts Try.infoF
  subst hgW
  have hd' := hd.alloc (.cells cs 31)
  have hl2 := hd.o2.lt
  have hl1 := hd.o1.lt
  have hc : ∀ j, (W.alloc (.cells cs 31)).cell? ⟨W.heap.size, j, none⟩ = cs[j]? := fun j => (Blk.new W 31 cs).cell j
  refine wpList_append_own_at _ hgd s x 37 ho B 31 i0 (.agg #[.int .i64 0, .int .i64 0, .int .i64 0, .int .u64 0, .string ⟨#[]⟩]) 5 48 Try.underlying37 hi hz0 hz1 hz2 rfl (by decide) v2 l2.length _ hs hd'.o2 ⟨W.heap.size, 0, none⟩ 1 1 (fdC p) hx rfl ?_ ?_ ?_ ?_ hd'.size ?_
  · intro j u hj
    have e : (⟨W.heap.size, 0, none⟩ : Addr).add j = ⟨W.heap.size, j, none⟩ := by unfold Addr.add; split <;> simp_all
    rw [e, hc, ← hj, ← hcs, Array.getElem?_toList]
  · intro u hu; unfold fdC at hu; simp at hu; rcases hu with rfl | rfl | rfl | rfl | rfl <;> rfl
  · unfold maxLen; omega
  · omega
  · intro v' W' hown' hg _ hat
    have hb : Below B W W' := ((Below.refl B W).alloc hd.size _).grown hg hd'.size (fun k hk => (hl2 k hk).1)
    refine h v' W' ⟨row_far hd'.o1 hg (fun g e e' => hd.ne g e' e), ?_, ?_, hd.bel.trans hb, Nat.le_trans hd.size hb.size⟩ hb (fun g t cs hk hne => (hk.alloc _).kept hg (fun e => hne e.symm))
    · rw [fdsC_snoc, List.length_append]
      exact hown'
    · intro g hg1 hg2
      rcases hat with e | e
      · rw [e] at hg2; exact hd.ne g hg1 hg2
      · rw [e] at hg2; cases hg2; have := (hl1 _ hg1).2; simp at this; omega
end Go.Proofs.Ytkaoacoahlbcoaa
